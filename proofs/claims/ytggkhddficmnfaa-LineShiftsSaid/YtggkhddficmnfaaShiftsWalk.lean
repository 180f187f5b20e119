/-
  The law LineShifts, walked: given that Awake answers true.
-/
import Derived.Deep.RegionWith
import Derived.Deep.RegionHeld3
import Derived.Test.YtggkhddficmnfaaRefSafe
namespace Go.Proofs.Ytggkhddficmnfaa
open Go.RowKit
set_option linter.unusedVariables false
set_option linter.unusedSimpArgs false

theorem shiftV_is (l : Ln) (t : Int) : ∃ n b e, l.shiftV t = .tuple #[.int .i64 n, .bool b, .int .i64 e] := by
  unfold Ln.shiftV
  split
  · split <;> exact ⟨_, _, _, rfl⟩
  · exact ⟨_, _, _, rfl⟩
theorem safeV_is (l : Ln) : ∃ a b e, l.safeV = .tuple #[.agg #[.int .i64 a, .int .i64 b], .int .i64 e] := by
  unfold Ln.safeV
  split
  · split <;> exact ⟨_, _, _, rfl⟩
  · exact ⟨_, _, _, rfl⟩

set_option maxRecDepth 100000 in
set_option maxHeartbeats 2000000 in
theorem shifts_walk (hA : ∀ W, Calls Try.prog 22 #[] W (Ret W (.bool true))) (l : Ln) (t : Int) (w : World) :
    Calls Try.prog 4 #[l.val, .int .i64 t] w fun e w' => e = .returned (.bool true) ∧ Below w.heap.size w w' := by
  have HA := hid hA
  have h1 := fun W => Shift_any l t W
  have h2 := fun W => refShift_any l t W
  have h3 := fun W => Check_any l W
  have h4 := fun W => refCheck_any l W
  have h5 := fun W => Safe_any l W
  have h6 := fun W => refSafe_any l W
  obtain ⟨n, b, e, he⟩ := shiftV_is l t
  obtain ⟨a1, a2, a3, ha⟩ := safeV_is l
  rw [he] at h1 h2
  rw [ha] at h5 h6
  generalize errno l.Ok = er at *
  have H1 := hid h1
  have H2 := hid h2
  have H3 := hid h3
  have H4 := hid h4
  have H5 := hid h5
  have H6 := hid h6
  clear h1 h2 h3 h4 h5 h6 he ha hA
  have hL0 := hid (lnAt_new' l w)
  go_enter Try.func4, Try.ntmps4
  go_wp2_with (first
    | (go_at_call 23; refine (H1.out _).mono ?_; rintro e w1 ⟨rfl, hb1⟩; have HB1 := hid (show Below w.heap.size w w1 by (repeat (first | assumption | exact Below.refl _ _ | refine b_alloc ?_ _ | refine Below.drew ?_ | refine b_drewN ?_ _ | refine Below.setCell ?_ (by first | omega | (simp; done) | (simp; omega)) _ | refine b_call (by assumption) ?_))); have hL1 := hid (lnAt_call hL0.out hb1); obtain ⟨d0, d1, d2, d3, d4, d5⟩ := hL1.out; clear hb1)
    | (go_at_call 24; refine (H2.out _).mono ?_; rintro e w2 ⟨rfl, hb2⟩; have HB2 := hid (b_call hb2 HB1.out); have hL2 := hid (lnAt_call hL1.out hb2); clear d0 d1 d2 d3 d4 d5 hb2; obtain ⟨d0, d1, d2, d3, d4, d5⟩ := hL2.out))
  go_region_held3 (fun w' => w'.cell? ⟨w.heap.size, 0, none⟩ = some (.int .i64 l.W) ∧ w'.cell? ⟨w.heap.size, 1, none⟩ = some (.int .i64 l.B) ∧ w'.cell? ⟨w.heap.size, 2, none⟩ = some (.int .i64 l.P) ∧ w'.cell? ⟨w.heap.size, 3, none⟩ = some (.int .i64 l.D) ∧ w'.cell? ⟨w.heap.size, 4, none⟩ = some (.int .i64 l.S) ∧ w'.cell? ⟨w.heap.size, 5, none⟩ = some (.int .i64 l.N))
    (first | go_keep | (go_split_ands; refine ⟨?_, ?_, ?_, ?_, ?_, ?_⟩ <;> exact cell_later (by assumption) (by assumption)))
    (first
      | (go_at_call 25; refine (H3.out _).mono ?_; rintro e w3 ⟨rfl, hb3⟩)
      | (go_at_call 26; refine (H4.out _).mono ?_; rintro e w4 ⟨rfl, hb4⟩))
  have hL4 := hid (lnAt_call (lnAt_call (lnAt_call hL2.out ((Below.refl w2.heap.size w2).drew)) hb3) hb4)
  have HB4 := hid (b_call hb4 (b_call hb3 HB2.out.drew))
  clear d0 d1 d2 d3 d4 d5 hb3 hb4
  obtain ⟨d0, d1, d2, d3, d4, d5⟩ := hL4.out
  go_wp2_with (first
    | (go_at_call 27; refine (H5.out _).mono ?_; rintro e w5 ⟨rfl, hb5⟩; have HB5 := hid (b_call hb5 HB4.out); have hL5 := hid (lnAt_call (lnAt_call hL4.out hb5) (b_alloc (Below.refl _ _) (.cells #[.int .i64 a1, .int .i64 a2] 31))); have HC0 := hid (Cel.new w5 #[.int .i64 a1, .int .i64 a2] 31 0 _ rfl); have HC1 := hid (Cel.new w5 #[.int .i64 a1, .int .i64 a2] 31 1 _ rfl); clear d0 d1 d2 d3 d4 d5 hb5; obtain ⟨d0, d1, d2, d3, d4, d5⟩ := hL5.out)
    | (go_at_call 28; refine (H6.out _).mono ?_; rintro e w6 ⟨rfl, hb6⟩; have HB6 := hid (b_call hb6 (b_alloc HB5.out _)); have c0 := (((HC0.out.call hb6).alloc (.cells #[.int .i64 a1, .int .i64 a2] 31))).1; have c1 := (((HC1.out.call hb6).alloc (.cells #[.int .i64 a1, .int .i64 a2] 31))).1; clear d0 d1 d2 d3 d4 d5 hb6)
    | (go_at_call 22; refine (HA.out _).mono ?_; rintro e w7 ⟨rfl, hb7⟩; have HB7 := hid (b_call hb7 (by repeat (first | exact b_alloc HB6.out _ | refine Below.drew ?_ | refine b_drewN ?_ _))); clear hb7))
  go_ret
  exact ⟨rfl, HB7.out⟩
end Go.Proofs.Ytggkhddficmnfaa
