/-
  OrderBegins: both sides begin with the same state.
-/
import Derived.Test.YtbfhgcnfhjhgcaaRefBeg
import Derived.Test.YtbfhgcnfhjhgcaaRefStates
import Derived.Test.YtbfhgcnfhjhgcaaLawA
namespace Go.Proofs.Ytbfhgcnfhjhgcaa
open Go.RowKit
set_option linter.unusedVariables false
set_option linter.unusedSimpArgs false

theorem begOf_len (store tape : List Int) (start : Int) : StLen (begOf store tape start) := by
  unfold begOf begErr
  by_cases h1 : store.length ≤ 128 ∧ tape.length ≤ 200
  · rw [if_pos h1]
    by_cases h2 : outW store < 0 ∧ outW tape < 0 ∧ Ad start
    · rw [if_pos h2, if_pos rfl]
      refine ⟨?_, ?_, ?_⟩
      · rw [begSt_len store tape start h1.1]; unfold Len; omega
      · show Len tape.length; unfold Len; omega
      · show Len 0; unfold Len; omega
    · rw [if_neg h2, if_neg (by decide)]
      exact ⟨by show Len 0; unfold Len; omega, by show Len 0; unfold Len; omega, by show Len 0; unfold Len; omega⟩
  · rw [if_neg h1, if_neg (by decide)]
    exact ⟨by show Len 0; unfold Len; omega, by show Len 0; unfold Len; omega, by show Len 0; unfold Len; omega⟩
set_option maxRecDepth 100000 in
set_option maxHeartbeats 4000000 in
theorem begins_any (hA : AwakeTrue) (w : World) (p0 : Option Addr) (c0 : Nat) (store : List Int) (e0 : Len store.length) (x0 : IntsAt w p0 store) (p1 : Option Addr) (c1 : Nat) (tape : List Int) (e1 : Len tape.length) (x1 : IntsAt w p1 tape) (start : Int) :
    Calls Try.prog 6 #[.slice p0 store.length c0, .slice p1 tape.length c1, .int .i64 start] w (Ret w (.bool true)) := by
  have HA := hid hA
  have X0 := hid x0
  have X1 := hid x1
  have H1 := hid (fun W h h' => Begin_any p0 p1 c0 c1 store tape start W h h')
  have H2 := hid (fun W h h' => refBegin_any p0 p1 c0 c1 store tape start W h h')
  have HL := hid (begOf_len store tape start)
  generalize begOf store tape start = s at *
  generalize begErr store tape start = er at *
  clear hA x0 x1
  go_enter Try.func6, Try.ntmps6
  go_wp2_with (first
    | (go_at_call 28; refine (H1.out _ (X0.out.below (by have hq := Below.refl w.heap.size w; (repeat (first | assumption | exact Below.refl _ _ | refine b_alloc ?_ _ | refine Below.drew ?_ | refine b_drewN ?_ _ | refine Below.setCell ?_ (by first | omega | (simp; done) | (simp; omega)) _ | refine b_call (by assumption) ?_)))) (X1.out.below (by have hq := Below.refl w.heap.size w; (repeat (first | assumption | exact Below.refl _ _ | refine b_alloc ?_ _ | refine Below.drew ?_ | refine b_drewN ?_ _ | refine Below.setCell ?_ (by first | omega | (simp; done) | (simp; omega)) _ | refine b_call (by assumption) ?_))))).mono ?_; rintro e w1 ⟨q1, rfl, hs1, hb1⟩; have HB1 := hid (show Below w.heap.size w w1 from b_call hb1 (by have hq := Below.refl w.heap.size w; (repeat (first | assumption | exact Below.refl _ _ | refine b_alloc ?_ _ | refine Below.drew ?_ | refine b_drewN ?_ _ | refine Below.setCell ?_ (by first | omega | (simp; done) | (simp; omega)) _ | refine b_call (by assumption) ?_)))); have HS1 := hid hs1; have S1 := hid (Blk.new w1 (stCells q1 s) 37); clear hb1 hs1)
    | (go_at_call 29; refine (H2.out _ (X0.out.below (by have hq := HB1.out; (repeat (first | assumption | exact Below.refl _ _ | refine b_alloc ?_ _ | refine Below.drew ?_ | refine b_drewN ?_ _ | refine Below.setCell ?_ (by first | omega | (simp; done) | (simp; omega)) _ | refine b_call (by assumption) ?_)))) (X1.out.below (by have hq := HB1.out; (repeat (first | assumption | exact Below.refl _ _ | refine b_alloc ?_ _ | refine Below.drew ?_ | refine b_drewN ?_ _ | refine Below.setCell ?_ (by first | omega | (simp; done) | (simp; omega)) _ | refine b_call (by assumption) ?_))))).mono ?_; rintro e w2 ⟨q2, rfl, hs2, hb2⟩; have HB2 := hid (show Below w.heap.size w w2 from b_call hb2 (by have hq := HB1.out; (repeat (first | assumption | exact Below.refl _ _ | refine b_alloc ?_ _ | refine Below.drew ?_ | refine b_drewN ?_ _ | refine Below.setCell ?_ (by first | omega | (simp; done) | (simp; omega)) _ | refine b_call (by assumption) ?_)))); have HS2 := hid hs2; have HS12 := hid (HS1.out.below (show Below w1.heap.size w1 w2 from b_call hb2 (by have hq := Below.refl w1.heap.size w1; (repeat (first | assumption | exact Below.refl _ _ | refine b_alloc ?_ _ | refine Below.drew ?_ | refine b_drewN ?_ _ | refine Below.setCell ?_ (by first | omega | (simp; done) | (simp; omega)) _ | refine b_call (by assumption) ?_))))); have S2 := hid ((S1.out.call hb2).alloc (.cells (stCells q2 s) 37)); have T2 := hid (Blk.new w2 (stCells q2 s) 37); obtain ⟨⟨x0, x1, x2, x3⟩, x4, x5, x6, x7⟩ := stBlk S2.out; obtain ⟨⟨y0, y1, y2, y3⟩, y4, y5, y6, y7⟩ := stBlk T2.out; clear hb2 hs2)
    | (go_at_call 30; refine (States_same q1 q2 s HL.out _ (HS12.out.below (by have hq := Below.refl w2.heap.size w2; (repeat (first | assumption | exact Below.refl _ _ | refine b_alloc ?_ _ | refine Below.drew ?_ | refine b_drewN ?_ _ | refine Below.setCell ?_ (by first | omega | (simp; done) | (simp; omega)) _ | refine b_call (by assumption) ?_)))) (HS2.out.below (by have hq := Below.refl w2.heap.size w2; (repeat (first | assumption | exact Below.refl _ _ | refine b_alloc ?_ _ | refine Below.drew ?_ | refine b_drewN ?_ _ | refine Below.setCell ?_ (by first | omega | (simp; done) | (simp; omega)) _ | refine b_call (by assumption) ?_))))).mono ?_; rintro e w3 ⟨rfl, hb3⟩; have HB3 := hid (show Below w.heap.size w w3 from b_call hb3 (by have hq := HB2.out; (repeat (first | assumption | exact Below.refl _ _ | refine b_alloc ?_ _ | refine Below.drew ?_ | refine b_drewN ?_ _ | refine Below.setCell ?_ (by first | omega | (simp; done) | (simp; omega)) _ | refine b_call (by assumption) ?_)))); clear hb3)
    | (go_at_call 23; refine (HA.out _).mono ?_; rintro e w7 ⟨rfl, hb7⟩; have HB7 := hid (show Below w.heap.size w w7 from b_call hb7 (by have hq := HB3.out; (repeat (first | assumption | exact Below.refl _ _ | refine b_alloc ?_ _ | refine Below.drew ?_ | refine b_drewN ?_ _ | refine Below.setCell ?_ (by first | omega | (simp; done) | (simp; omega)) _ | refine b_call (by assumption) ?_)))); clear hb7))
  go_ret
  exact ⟨rfl, HB7.out⟩
end Go.Proofs.Ytbfhgcnfhjhgcaa
