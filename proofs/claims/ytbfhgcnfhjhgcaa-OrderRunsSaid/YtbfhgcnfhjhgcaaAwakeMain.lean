/-
  Awake itself.
-/
import Derived.Test.YtbfhgcnfhjhgcaaAwParts
namespace Go.Proofs.Ytbfhgcnfhjhgcaa
open Go.RowKit
set_option linter.unusedVariables false
set_option linter.unusedSimpArgs false

set_option maxRecDepth 100000 in
set_option maxHeartbeats 8000000 in
theorem Awake_any (w : World) : Calls Try.prog 23 #[] w (Ret w (.bool true)) := by
  have HB0 := hid (Below.refl w.heap.size w)
  have M0 := hid trivial
  go_enter Try.func23, Try.ntmps23
  go_wp2_with (first
    | (have m := M0; go_at_call 36; refine (Store_any _).mono ?_; rintro e w1 ⟨b1, rfl, hi1, hb1⟩; have HB1 := hid (b_call hb1 HB0.out); have HI1 := hid hi1; clear hb1 hi1 m M0; have M1 := hid trivial)
    | (have m := M1; go_at_call 28; refine (aBegin _ _ _ _ _ (HI1.out.below (b_alloc (Below.refl _ _) _)) (ints3' _ _ _ _ _ (by simp))).mono ?_; rintro e w2 ⟨q, rfl, hs2, hb2⟩; have HB2 := hid (b_call hb2 (b_alloc HB1.out _)); have HS2 := hid hs2; have B2 := hid (Blk.new w2 (stCells q sA) 37); clear hb2 hs2 m M1; have M2 := hid trivial)
    | (have m := M2; go_at_call 31; refine (aRun q _ (HS2.out.below (b_alloc (Below.refl _ _) _))).mono ?_; rintro e w3 ⟨bs, os, cs, cb, tb, bp, op, cp, rfl, hc3, hb3⟩; have HB3 := hid (b_call hb3 (b_alloc HB2.out _)); have HC3 := hid hc3; have HS3 := hid (HS2.out.below (b_call hb3 (b_alloc (Below.refl _ _) _))); have B3 := hid (B2.out.call hb3); obtain ⟨⟨x0, x1, x2, x3⟩, x4, x5, x6, x7⟩ := stBlk (B3.out.alloc (.cells #[.slice (some ⟨bs, os, none⟩) 128 cs, .slice tb 3 cb, .int .i64 3, .slice (some ⟨bp, op, none⟩) 1 cp, .int .i64 141, .int .i64 13, .int .i64 9, .int .i64 1] 37)); have T3 := hid (Blk.new w3 #[.slice (some ⟨bs, os, none⟩) 128 cs, .slice tb 3 cb, .int .i64 3, .slice (some ⟨bp, op, none⟩) 1 cp, .int .i64 141, .int .i64 13, .int .i64 9, .int .i64 1] 37); clear hb3 hc3 m M2; have M3 := hid trivial)
    | (have m := M3; go_at_call 33; refine (aTrace q _ (HS3.out.below (b_alloc (Below.refl _ _) _))).mono ?_; rintro e w4 ⟨b4, c4, rfl, hd4, hb4⟩; have HB4 := hid (b_call hb4 (b_alloc HB3.out _)); have HBC4 := hid (b_call hb4 (b_alloc (Below.refl w3.heap.size w3) _)); have HD4 := hid hd4; have T4 := hid (T3.out.call hb4); clear hb4 hd4 x0 x1 x2 x3 x4 x5 x6 x7 m M3; have M4 := hid trivial)
    | (have m := M4; go_at_call 21; refine (aSigned1 _).mono ?_; rintro e w5 ⟨rfl, hb5⟩; have HB5 := hid hb5; clear hb5 m M4; have M5 := hid trivial)
    | (have m := M5; go_at_call 19; refine (aDecode _).mono ?_; rintro e w6 ⟨rfl, hb6⟩; have HB6 := hid (b_call hb6 HB5.out); have O6 := hid (Blk.new w6 #[.int .i64 5, .int .i64 5, .int .i64 12, .int .i64 10] 23); clear hb6 m M5; have M6 := hid trivial)
    | (have m := M6; go_at_call 21; refine (aSigned2 _).mono ?_; rintro e w7 ⟨rfl, hb7⟩; have HB7 := hid (show Below w4.heap.size w4 w7 from b_call hb7 (b_alloc HB6.out _)); have O7 := hid (O6.out.call hb7); have T7 := hid (T4.out.call HB7.out); obtain ⟨o0, o1, o2, o3⟩ := odBlk O7.out; obtain ⟨⟨x0, x1, x2, x3⟩, x4, x5, x6, x7⟩ := stBlk T7.out; obtain ⟨y14, y5, hi7⟩ := HC3.out; have c14 := cell_later (b_call HB7.out HBC4.out) y14; have c5 := cell_later (b_call HB7.out HBC4.out) y5; obtain ⟨z8, z26, z48⟩ := HD4.out; have d8 := cell_later HB7.out z8; have d26 := cell_later HB7.out z26; have d48 := cell_later HB7.out z48; have HI7 := hid (hi7.below (b_call HB7.out HBC4.out)); clear hb7 y14 y5 hi7 z8 z26 z48 m M6; have M7 := hid trivial)
    | (have m := M7; go_at_call 38; refine (Ints_any _ _ _ _ [7] [7] (by decide) (by decide) _ (HI7.out.below (b_alloc (Below.refl _ _) _)) (ints1' _ _ _ (by simp))).mono ?_; rintro e w8 ⟨rfl, hb8⟩; have HB8 := hid (b_call hb8 (b_alloc (Below.refl w7.heap.size w7) _)); clear o0 o1 o2 o3 x0 x1 x2 x3 x4 x5 x6 x7 c14 c5; obtain ⟨⟨x0, x1, x2, x3⟩, x4, x5, x6, x7⟩ := stBlk (T7.out.call HB8.out); replace d8 := cell_later HB8.out d8; replace d26 := cell_later HB8.out d26; replace d48 := cell_later HB8.out d48; clear hb8 m M7))
  go_ret
  exact ⟨rfl, b_call HB8.out (b_call HB7.out HB4.out)⟩
end Go.Proofs.Ytbfhgcnfhjhgcaa
