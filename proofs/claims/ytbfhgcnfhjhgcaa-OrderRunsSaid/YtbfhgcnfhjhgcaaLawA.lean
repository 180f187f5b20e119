/-
  OrderWords, OrderTimes, OrderChecks: both sides say the same.
-/
import Derived.Test.YtbfhgcnfhjhgcaaMach
import Derived.Test.YtbfhgcnfhjhgcaaRefCheck
namespace Go.Proofs.Ytbfhgcnfhjhgcaa
open Go.RowKit
set_option linter.unusedVariables false
set_option linter.unusedSimpArgs false

abbrev AwakeTrue : Prop := ∀ W : World, Calls Try.prog 23 #[] W (Ret W (.bool true))
set_option maxRecDepth 100000 in
set_option maxHeartbeats 4000000 in
theorem words_any (hA : AwakeTrue) (w : World) (o : Od) (x : Int) : Calls Try.prog 3 #[o.val, .int .i64 x] w (Ret w (.bool true)) := by
  have HA := hid hA
  have HO := hid (odAt_new w o)
  have H1 := hid (fun W => Encode_any o W)
  have H2 := hid (fun W => refEncode_any o W)
  have H3 := hid (fun W => Decode_any x W)
  have H4 := hid (fun W => refDecode_any x W)
  have H5 := hid (fun W => Signed_any x W)
  have H6 := hid (fun W => refSigned_any x W)
  generalize encOf o = p at *
  generalize decOf x = d at *
  generalize sgnOf x = s at *
  obtain ⟨p1, p2⟩ := p
  obtain ⟨⟨d0, d1, d2, d3⟩, d4⟩ := d
  obtain ⟨s1, s2⟩ := s
  clear hA
  go_enter Try.func3, Try.ntmps3
  go_wp2_with (first
    | (go_at_call 17; refine (H1.out _).mono ?_; rintro e w1 ⟨rfl, hb1⟩; have HB1 := hid (show Below w.heap.size w w1 from b_call hb1 (by (repeat (first | assumption | exact Below.refl _ _ | refine b_alloc ?_ _ | refine Below.drew ?_ | refine b_drewN ?_ _ | refine Below.setCell ?_ (by first | omega | (simp; done) | (simp; omega)) _ | refine b_call (by assumption) ?_)))); obtain ⟨y0, y1, y2, y3⟩ := odAt_call HO.out hb1; clear hb1)
    | (go_at_call 18; refine (H2.out _).mono ?_; rintro e w2 ⟨rfl, hb2⟩; have HB2 := hid (b_call hb2 HB1.out); clear hb2)
    | (go_at_call 19; refine (H3.out _).mono ?_; rintro e w3 ⟨rfl, hb3⟩; have HB3 := hid (b_call hb3 HB2.out); have D3 := hid (Blk.new w3 #[.int .i64 d0, .int .i64 d1, .int .i64 d2, .int .i64 d3] 23); clear hb3 y0 y1 y2 y3)
    | (go_at_call 20; refine (H4.out _).mono ?_; rintro e w4 ⟨rfl, hb4⟩; have HB4 := hid (b_call hb4 (b_alloc HB3.out _)); have D4 := hid ((D3.out.call hb4).alloc (.cells #[.int .i64 d0, .int .i64 d1, .int .i64 d2, .int .i64 d3] 23)); obtain ⟨y0, y1, y2, y3⟩ := odBlk D4.out; clear hb4)
    | (go_at_call 21; refine (H5.out _).mono ?_; rintro e w5 ⟨rfl, hb5⟩; have HB5 := hid (show Below w.heap.size w w5 from b_call hb5 (by have hq := HB4.out; (repeat (first | assumption | exact Below.refl _ _ | refine b_alloc ?_ _ | refine Below.drew ?_ | refine b_drewN ?_ _ | refine Below.setCell ?_ (by first | omega | (simp; done) | (simp; omega)) _ | refine b_call (by assumption) ?_)))); clear hb5 y0 y1 y2 y3)
    | (go_at_call 22; refine (H6.out _).mono ?_; rintro e w6 ⟨rfl, hb6⟩; have HB6 := hid (b_call hb6 HB5.out); clear hb6)
    | (go_at_call 23; refine (HA.out _).mono ?_; rintro e w7 ⟨rfl, hb7⟩; have HB7 := hid (b_call hb7 HB6.out); clear hb7))
  go_ret
  exact ⟨rfl, HB7.out⟩
set_option maxRecDepth 100000 in
set_option maxHeartbeats 4000000 in
theorem times_any (hA : AwakeTrue) (w : World) (o : Od) (t : Int) (neg : Bool) : Calls Try.prog 4 #[o.val, .int .i64 t, .bool neg] w (Ret w (.bool true)) := by
  have HA := hid hA
  have HO := hid (odAt_new w o)
  have H1 := hid (fun W => When_any o t neg W)
  have H2 := hid (fun W => refWhen_any o t neg W)
  generalize whenOf o t neg = p at *
  generalize whenErr o t = r at *
  obtain ⟨p1, p2⟩ := p
  clear hA
  go_enter Try.func4, Try.ntmps4
  go_wp2_with (first
    | (go_at_call 24; refine (H1.out _).mono ?_; rintro e w1 ⟨rfl, hb1⟩; have HB1 := hid (show Below w.heap.size w w1 from b_call hb1 (by (repeat (first | assumption | exact Below.refl _ _ | refine b_alloc ?_ _ | refine Below.drew ?_ | refine b_drewN ?_ _ | refine Below.setCell ?_ (by first | omega | (simp; done) | (simp; omega)) _ | refine b_call (by assumption) ?_)))); obtain ⟨y0, y1, y2, y3⟩ := odAt_call HO.out hb1; clear hb1)
    | (go_at_call 25; refine (H2.out _).mono ?_; rintro e w2 ⟨rfl, hb2⟩; have HB2 := hid (b_call hb2 HB1.out); clear hb2)
    | (go_at_call 23; refine (HA.out _).mono ?_; rintro e w7 ⟨rfl, hb7⟩; have HB7 := hid (b_call hb7 HB2.out); clear hb7))
  go_ret
  exact ⟨rfl, HB7.out⟩
set_option maxRecDepth 100000 in
set_option maxHeartbeats 4000000 in
theorem checks_any (hA : AwakeTrue) (w : World) (q : Sl) (s : St) (hl : StLen s) (hx : StAt w q s) : Calls Try.prog 5 #[stVal q s] w (Ret w (.bool true)) := by
  have HA := hid hA
  have B0 := hid (Blk.new w (stCells q s) 37)
  have HX := hid hx
  have H1 := hid (fun W g => Check_any q s hl W g)
  have H2 := hid (fun W g => refCheck_any q s hl W g)
  generalize chk s = r at *
  obtain ⟨r1, r2, r3⟩ := r
  clear hA hx hl
  go_enter Try.func5, Try.ntmps5
  go_wp2_with (first
    | (go_at_call 26; refine (H1.out _ (HX.out.below (by (repeat (first | assumption | exact Below.refl _ _ | refine b_alloc ?_ _ | refine Below.drew ?_ | refine b_drewN ?_ _ | refine Below.setCell ?_ (by first | omega | (simp; done) | (simp; omega)) _ | refine b_call (by assumption) ?_))))).mono ?_; rintro e w1 ⟨rfl, hb1⟩; have HB1 := hid (show Below w.heap.size w w1 from b_call hb1 (by (repeat (first | assumption | exact Below.refl _ _ | refine b_alloc ?_ _ | refine Below.drew ?_ | refine b_drewN ?_ _ | refine Below.setCell ?_ (by first | omega | (simp; done) | (simp; omega)) _ | refine b_call (by assumption) ?_)))); obtain ⟨⟨x0, x1, x2, x3⟩, x4, x5, x6, x7⟩ := stBlk (B0.out.call hb1); clear hb1)
    | (go_at_call 27; refine (H2.out _ (HX.out.below HB1.out)).mono ?_; rintro e w2 ⟨rfl, hb2⟩; have HB2 := hid (b_call hb2 HB1.out); clear hb2)
    | (go_at_call 23; refine (HA.out _).mono ?_; rintro e w7 ⟨rfl, hb7⟩; have HB7 := hid (b_call hb7 HB2.out); clear hb7))
  go_ret
  exact ⟨rfl, HB7.out⟩
end Go.Proofs.Ytbfhgcnfhjhgcaa
