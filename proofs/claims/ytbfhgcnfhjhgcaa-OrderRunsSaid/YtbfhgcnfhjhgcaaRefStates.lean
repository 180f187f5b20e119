/-
  The reference's States, at equal states.
-/
import Derived.Test.YtbfhgcnfhjhgcaaRefInts
import Derived.Test.YtbfhgcnfhjhgcaaRetSt
namespace Go.Proofs.Ytbfhgcnfhjhgcaa
open Go.RowKit
set_option linter.unusedVariables false
set_option linter.unusedSimpArgs false

theorem Ints_same (a b : Option Addr) (ca cb : Nat) (xs : List Int) (hn : Len xs.length) (w : World) (hx : IntsAt w a xs) (hy : IntsAt w b xs) : Calls Try.prog 38 #[.slice a xs.length ca, .slice b xs.length cb] w (Ret w (.bool true)) := by
  have h := Ints_any a b ca cb xs xs hn hn w hx hy
  rwa [decide_eq_true rfl] at h
set_option maxRecDepth 100000 in
set_option maxHeartbeats 4000000 in
theorem States_same (q1 q2 : Sl) (s : St) (hl : StLen s) (w : World) (h1 : StAt w q1 s) (h2 : StAt w q2 s) : Calls Try.prog 30 #[stVal q1 s, stVal q2 s] w (Ret w (.bool true)) := by
  have B0 := hid ((Blk.new w (stCells q1 s) 37).alloc (.cells (stCells q2 s) 37))
  have C0 := hid (show Blk ((w.alloc (.cells (stCells q1 s) 37)).alloc (.cells (stCells q2 s) 37)) (w.heap.size + 1) 37 (stCells q2 s) by have h := Blk.new (w.alloc (.cells (stCells q1 s) 37)) (stCells q2 s) 37; rwa [World.size_alloc] at h)
  have HB := hid (b_alloc (b_alloc (Below.refl w.heap.size w) (.cells (stCells q1 s) 37)) (.cells (stCells q2 s) 37))
  have H1 := hid (h1.below HB.out)
  have H2 := hid (h2.below HB.out)
  have HL := hid hl
  have M0 := hid trivial
  obtain ⟨⟨x0, x1, x2, x3⟩, x4, x5, x6, x7⟩ := stBlk B0.out
  obtain ⟨⟨y0, y1, y2, y3⟩, y4, y5, y6, y7⟩ := stBlk C0.out
  clear h1 h2 hl
  go_enter Try.func30, Try.ntmps30
  go_wp2_with (first
    | (have m := M0; go_at_call 38; refine (Ints_same q1.a q2.a q1.ca q2.ca s.store HL.out.1 _ (H1.out.1.below (Below.refl _ _)) (H2.out.1.below (Below.refl _ _))).mono ?_; rintro e w1 ⟨rfl, hb1⟩; have HB1 := hid hb1; clear hb1 m M0 x0 x1 x2 x3 x4 x5 x6 x7 y0 y1 y2 y3 y4 y5 y6 y7; obtain ⟨⟨x0, x1, x2, x3⟩, x4, x5, x6, x7⟩ := stBlk (B0.out.call HB1.out); obtain ⟨⟨y0, y1, y2, y3⟩, y4, y5, y6, y7⟩ := stBlk (C0.out.call HB1.out); have M1 := hid trivial)
    | (have m := M1; go_at_call 38; refine (Ints_same q1.b q2.b q1.cb q2.cb s.tape HL.out.2.1 _ (H1.out.2.1.below (HB1.out)) (H2.out.2.1.below (HB1.out))).mono ?_; rintro e w2 ⟨rfl, hb2⟩; have HB2 := hid (b_call hb2 (HB1.out)); clear hb2 m M1 x0 x1 x2 x3 x4 x5 x6 x7 y0 y1 y2 y3 y4 y5 y6 y7; obtain ⟨⟨x0, x1, x2, x3⟩, x4, x5, x6, x7⟩ := stBlk (B0.out.call HB2.out); obtain ⟨⟨y0, y1, y2, y3⟩, y4, y5, y6, y7⟩ := stBlk (C0.out.call HB2.out); have M2 := hid trivial)
    | (have m := M2; go_at_call 38; refine (Ints_same q1.c q2.c q1.cc q2.cc s.printed HL.out.2.2 _ (H1.out.2.2.below (HB2.out)) (H2.out.2.2.below (HB2.out))).mono ?_; rintro e w3 ⟨rfl, hb3⟩; have HB3 := hid (b_call hb3 (HB2.out)); clear hb3 m M2 x0 x1 x2 x3 x4 x5 x6 x7 y0 y1 y2 y3 y4 y5 y6 y7; obtain ⟨⟨x0, x1, x2, x3⟩, x4, x5, x6, x7⟩ := stBlk (B0.out.call HB3.out); obtain ⟨⟨y0, y1, y2, y3⟩, y4, y5, y6, y7⟩ := stBlk (C0.out.call HB3.out); have M3 := hid trivial))
  go_ret
  exact ⟨rfl, b_call HB3.out HB.out⟩
end Go.Proofs.Ytbfhgcnfhjhgcaa
