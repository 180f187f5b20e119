/-
  OrderPacked: there and back.
-/
import Derived.Test.YtbfhgcnfhjhgcaaLawA
namespace Go.Proofs.Ytbfhgcnfhjhgcaa
open Go.RowKit
set_option linter.unusedVariables false
set_option linter.unusedSimpArgs false

theorem enc_of_ok {o : Od} (h : o.Ok) : encOf o = (enc o, 0) := by unfold encOf; rw [if_pos h]
theorem enc_of_no {o : Od} (h : ¬ o.Ok) : encOf o = (0, 7) := by unfold encOf; rw [if_neg h]
theorem dec_of_ok {x : Int} (h : Wd x) : decOf x = (dec x, 0) := by unfold decOf; rw [if_pos h]
theorem dec_of_no {x : Int} (h : ¬ Wd x) : decOf x = (⟨0, 0, 0, 0⟩, 7) := by unfold decOf; rw [if_neg h]
theorem sgn_of_ok {x : Int} (h : Wd x) : sgnOf x = (sgn x, 0) := by unfold sgnOf; rw [if_pos h]
set_option maxRecDepth 100000 in
set_option maxHeartbeats 8000000 in
theorem packed_any (hA : AwakeTrue) (w : World) (o : Od) (x : Int) : Calls Try.prog 9 #[o.val, .int .i64 x] w (Ret w (.bool true)) := by
  have HA := hid hA
  have HO := hid (odAt_new w o)
  have h1 := fun W => Encode_any o W
  have h3 := fun W => Decode_any x W
  have M0 := hid trivial
  clear hA
  by_cases ho : o.Ok
  · have hw := enc_wd ho
    have h2 := fun W => Decode_any (enc o) W
    rw [dec_of_ok hw, dec_enc ho] at h2
    rw [enc_of_ok ho] at h1
    generalize enc o = z at *
    obtain ⟨o0, o1, o2, o3⟩ := o
    by_cases hx : Wd x
    · have h4 := fun W => Encode_any (dec x) W
      rw [enc_of_ok (dec_ok hx), enc_dec] at h4
      rw [dec_of_ok hx] at h3
      have h5 := fun W => Signed_any x W
      rw [sgn_of_ok hx] at h5
      have hb := sgn_bd hx
      have hs : sgn x = x ∨ sgn x = x - 16777216 := by unfold sgn; split <;> omega
      generalize dec x = d at *
      obtain ⟨d0, d1, d2, d3⟩ := d
      generalize sgn x = n at *
      have H1 := hid h1
      have H2 := hid h2
      have H3 := hid h3
      have H4 := hid h4
      have H5 := hid h5
      have hsb : n = x ∨ (n = x - 16777216 ∧ (x - 16777216 == x) = false) := by
        rcases hs with e | e
        · exact .inl e
        · exact .inr ⟨e, by simp; omega⟩
      have hb1 : n < 8388608 := by omega
      have hb2 : -8388608 ≤ n := by omega
      have hx1 : 0 ≤ x := hx.1
      have hx2 : x ≤ 16777215 := hx.2
      clear h1 h2 h3 h4 h5 hs hb ho hx
      rcases hsb with rfl | ⟨rfl, hs1⟩
      all_goals
        go_enter Try.func9, Try.ntmps9
        go_wp2_with (first
          | (have m := M0; go_at_call 17; refine (H1.out _).mono ?_; rintro e w1 ⟨rfl, hb1⟩; have HB1 := hid (show Below w.heap.size w w1 from b_call hb1 (by (repeat (first | assumption | exact Below.refl _ _ | refine b_alloc ?_ _ | refine Below.drew ?_ | refine b_drewN ?_ _ | refine Below.setCell ?_ (by first | omega | (simp; done) | (simp; omega)) _ | refine b_call (by assumption) ?_)))); have O1 := hid (odAt_call HO.out hb1); clear hb1 m M0; have M1 := hid trivial)
          | (have m := M1; go_at_call 19; refine (H2.out _).mono ?_; rintro e w2 ⟨rfl, hb2⟩; have HB2 := hid (b_call hb2 HB1.out); have O2 := hid (odAt_call (odAt_call O1.out hb2) (b_alloc (Below.refl w2.heap.size w2) (.cells #[.int .i64 o0, .int .i64 o1, .int .i64 o2, .int .i64 o3] 23))); obtain ⟨y0, y1, y2, y3⟩ := O2.out; clear hb2 m M1; have M2 := hid trivial)
          | (have m := M2; go_at_call 19; refine (H3.out _).mono ?_; rintro e w3 ⟨rfl, hb3⟩; have HB3 := hid (b_call hb3 (b_alloc HB2.out _)); clear hb3 m M2 y0 y1 y2 y3; have M3 := hid trivial)
          | (have m := M3; go_at_call 17; refine (H4.out _).mono ?_; rintro e w4 ⟨rfl, hb4⟩; have HB4 := hid (show Below w.heap.size w w4 from b_call hb4 (by have hq := HB3.out; (repeat (first | assumption | exact Below.refl _ _ | refine b_alloc ?_ _ | refine Below.drew ?_ | refine b_drewN ?_ _ | refine Below.setCell ?_ (by first | omega | (simp; done) | (simp; omega)) _ | refine b_call (by assumption) ?_)))); clear hb4 m M3)
          | (go_at_call 21; refine (H5.out _).mono ?_; rintro e w5 ⟨rfl, hb5⟩; have HB5 := hid (b_call hb5 HB4.out); clear hb5)
          | (go_at_call 23; refine (HA.out _).mono ?_; rintro e w7 ⟨rfl, hb7⟩; have HB7 := hid (b_call hb7 HB5.out); clear hb7))
        go_ret
        exact ⟨rfl, HB7.out⟩
    · rw [dec_of_no hx] at h3
      have H1 := hid h1
      have H2 := hid h2
      have H3 := hid h3
      clear h1 h2 h3 ho hx
      go_enter Try.func9, Try.ntmps9
      go_wp2_with (first
        | (have m := M0; go_at_call 17; refine (H1.out _).mono ?_; rintro e w1 ⟨rfl, hb1⟩; have HB1 := hid (show Below w.heap.size w w1 from b_call hb1 (by (repeat (first | assumption | exact Below.refl _ _ | refine b_alloc ?_ _ | refine Below.drew ?_ | refine b_drewN ?_ _ | refine Below.setCell ?_ (by first | omega | (simp; done) | (simp; omega)) _ | refine b_call (by assumption) ?_)))); have O1 := hid (odAt_call HO.out hb1); clear hb1 m M0; have M1 := hid trivial)
        | (have m := M1; go_at_call 19; refine (H2.out _).mono ?_; rintro e w2 ⟨rfl, hb2⟩; have HB2 := hid (b_call hb2 HB1.out); have O2 := hid (odAt_call (odAt_call O1.out hb2) (b_alloc (Below.refl w2.heap.size w2) (.cells #[.int .i64 o0, .int .i64 o1, .int .i64 o2, .int .i64 o3] 23))); obtain ⟨y0, y1, y2, y3⟩ := O2.out; clear hb2 m M1; have M2 := hid trivial)
        | (have m := M2; go_at_call 19; refine (H3.out _).mono ?_; rintro e w3 ⟨rfl, hb3⟩; have HB3 := hid (show Below w.heap.size w w3 from b_call hb3 (b_alloc HB2.out _)); clear hb3 m M2; clear y0 y1 y2 y3; have M3 := hid trivial)
        | (go_at_call 23; refine (HA.out _).mono ?_; rintro e w7 ⟨rfl, hb7⟩; have HB7 := hid (show Below w.heap.size w w7 from b_call hb7 (by have hq := HB3.out; (repeat (first | assumption | exact Below.refl _ _ | refine b_alloc ?_ _ | refine Below.drew ?_ | refine b_drewN ?_ _ | refine Below.setCell ?_ (by first | omega | (simp; done) | (simp; omega)) _ | refine b_call (by assumption) ?_)))); clear hb7))
      go_ret
      exact ⟨rfl, HB7.out⟩
  · rw [enc_of_no ho] at h1
    by_cases hx : Wd x
    · have h4 := fun W => Encode_any (dec x) W
      rw [enc_of_ok (dec_ok hx), enc_dec] at h4
      rw [dec_of_ok hx] at h3
      have h5 := fun W => Signed_any x W
      rw [sgn_of_ok hx] at h5
      have hb := sgn_bd hx
      have hs : sgn x = x ∨ sgn x = x - 16777216 := by unfold sgn; split <;> omega
      generalize dec x = d at *
      obtain ⟨d0, d1, d2, d3⟩ := d
      generalize sgn x = n at *
      have H1 := hid h1
      have H3 := hid h3
      have H4 := hid h4
      have H5 := hid h5
      have hsb : n = x ∨ (n = x - 16777216 ∧ (x - 16777216 == x) = false) := by
        rcases hs with e | e
        · exact .inl e
        · exact .inr ⟨e, by simp; omega⟩
      have hb1 : n < 8388608 := by omega
      have hb2 : -8388608 ≤ n := by omega
      have hx1 : 0 ≤ x := hx.1
      have hx2 : x ≤ 16777215 := hx.2
      clear h1 h3 h4 h5 hs hb ho hx
      rcases hsb with rfl | ⟨rfl, hs1⟩
      all_goals
        go_enter Try.func9, Try.ntmps9
        go_wp2_with (first
          | (have m := M0; go_at_call 17; refine (H1.out _).mono ?_; rintro e w1 ⟨rfl, hb1⟩; have HB1 := hid (show Below w.heap.size w w1 from b_call hb1 (by (repeat (first | assumption | exact Below.refl _ _ | refine b_alloc ?_ _ | refine Below.drew ?_ | refine b_drewN ?_ _ | refine Below.setCell ?_ (by first | omega | (simp; done) | (simp; omega)) _ | refine b_call (by assumption) ?_)))); have O1 := hid (odAt_call HO.out hb1); clear hb1 m M0; have HB2 := hid HB1.out; have M2 := hid trivial)
          | (have m := M2; go_at_call 19; refine (H3.out _).mono ?_; rintro e w3 ⟨rfl, hb3⟩; have HB3 := hid (show Below w.heap.size w w3 from b_call hb3 (by have hq := HB2.out; (repeat (first | assumption | exact Below.refl _ _ | refine b_alloc ?_ _ | refine Below.drew ?_ | refine b_drewN ?_ _ | refine Below.setCell ?_ (by first | omega | (simp; done) | (simp; omega)) _ | refine b_call (by assumption) ?_)))); clear hb3 m M2; have M3 := hid trivial)
          | (have m := M3; go_at_call 17; refine (H4.out _).mono ?_; rintro e w4 ⟨rfl, hb4⟩; have HB4 := hid (show Below w.heap.size w w4 from b_call hb4 (by have hq := HB3.out; (repeat (first | assumption | exact Below.refl _ _ | refine b_alloc ?_ _ | refine Below.drew ?_ | refine b_drewN ?_ _ | refine Below.setCell ?_ (by first | omega | (simp; done) | (simp; omega)) _ | refine b_call (by assumption) ?_)))); clear hb4 m M3)
          | (go_at_call 21; refine (H5.out _).mono ?_; rintro e w5 ⟨rfl, hb5⟩; have HB5 := hid (b_call hb5 HB4.out); clear hb5)
          | (go_at_call 23; refine (HA.out _).mono ?_; rintro e w7 ⟨rfl, hb7⟩; have HB7 := hid (b_call hb7 HB5.out); clear hb7))
        go_ret
        exact ⟨rfl, HB7.out⟩
    · rw [dec_of_no hx] at h3
      have H1 := hid h1
      have H3 := hid h3
      clear h1 h3 ho hx
      go_enter Try.func9, Try.ntmps9
      go_wp2_with (first
        | (have m := M0; go_at_call 17; refine (H1.out _).mono ?_; rintro e w1 ⟨rfl, hb1⟩; have HB1 := hid (show Below w.heap.size w w1 from b_call hb1 (by (repeat (first | assumption | exact Below.refl _ _ | refine b_alloc ?_ _ | refine Below.drew ?_ | refine b_drewN ?_ _ | refine Below.setCell ?_ (by first | omega | (simp; done) | (simp; omega)) _ | refine b_call (by assumption) ?_)))); have O1 := hid (odAt_call HO.out hb1); clear hb1 m M0; have HB2 := hid HB1.out; have M2 := hid trivial)
        | (have m := M2; go_at_call 19; refine (H3.out _).mono ?_; rintro e w3 ⟨rfl, hb3⟩; have HB3 := hid (show Below w.heap.size w w3 from b_call hb3 (by have hq := HB2.out; (repeat (first | assumption | exact Below.refl _ _ | refine b_alloc ?_ _ | refine Below.drew ?_ | refine b_drewN ?_ _ | refine Below.setCell ?_ (by first | omega | (simp; done) | (simp; omega)) _ | refine b_call (by assumption) ?_)))); clear hb3 m M2; have M3 := hid trivial)
        | (go_at_call 23; refine (HA.out _).mono ?_; rintro e w7 ⟨rfl, hb7⟩; have HB7 := hid (show Below w.heap.size w w7 from b_call hb7 (by have hq := HB3.out; (repeat (first | assumption | exact Below.refl _ _ | refine b_alloc ?_ _ | refine Below.drew ?_ | refine b_drewN ?_ _ | refine Below.setCell ?_ (by first | omega | (simp; done) | (simp; omega)) _ | refine b_call (by assumption) ?_)))); clear hb7))
      go_ret
      exact ⟨rfl, HB7.out⟩
end Go.Proofs.Ytbfhgcnfhjhgcaa
