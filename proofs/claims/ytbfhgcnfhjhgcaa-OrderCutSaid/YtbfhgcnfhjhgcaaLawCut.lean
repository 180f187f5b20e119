/-
  OrderCut: runs can be cut anywhere; each step of a trace begins where, and when, the one before ends.
-/
import Derived.Test.YtbfhgcnfhjhgcaaCutMath2
import Derived.Test.YtbfhgcnfhjhgcaaLawC
namespace Go.Proofs.Ytbfhgcnfhjhgcaa
open Go.RowKit
set_option linter.unusedVariables false
set_option linter.unusedSimpArgs false

theorem stBlkT {W : World} {b : Nat} {q : Sl} {s : St} (h : Blk W b 37 (stCells q s)) : W.cell? ⟨b, 4, none⟩ = some (.int .i64 s.time) ∧ W.cell? ⟨b, 5, none⟩ = some (.int .i64 s.at_) ∧ W.cell? ⟨b, 6, none⟩ = some (.int .i64 s.done) := ⟨h.cell 4 _ rfl, h.cell 5 _ rfl, h.cell 6 _ rfl⟩
set_option maxRecDepth 100000 in
set_option maxHeartbeats 16000000 in
theorem cut_ok (hA : AwakeTrue) (w : World) (q : Sl) (s t u : St) (hx : StAt w q s) (hl : StLen u) (a b A B : Int) (ha : 0 ≤ a ∧ a ≤ 65535) (hb : 0 ≤ b ∧ b ≤ 65535) (ra : a.tmod 2500 = A) (rb : b.tmod 2500 = B) (pa : 0 ≤ A ∧ A ≤ 2499) (pb : 0 ≤ B ∧ B ≤ 2499) (l : List Stp) (f g : Nat → Int) (hc : CutAll s u l f g) (hlen : (l.length : Int) = u.done - s.done) (hd : 0 ≤ s.done ∧ u.done ≤ 1000000000) (hl5 : l.length ≤ 5000)
    (h1 : ∀ W, StAt W q s → Calls Try.prog 31 #[stVal q s, .int .i64 A] W (RetS W t 0)) (h2 : ∀ q' W, StAt W q' t → Calls Try.prog 31 #[stVal q' t, .int .i64 B] W (RetS W u 0))
    (h3 : ∀ W, StAt W q s → Calls Try.prog 31 #[stVal q s, .int .i64 (A + B)] W (RetS W u 0)) (h4 : ∀ W, StAt W q s → Calls Try.prog 33 #[stVal q s, .int .i64 (A + B)] W (RetT W l 0)) :
    Calls Try.prog 10 #[stVal q s, arr2 a b] w (Ret w (.bool true)) := by
  have HA := hid hA
  have HX := hid hx
  have HL := hid hl
  have HC := hid hc
  have H1 := hid h1
  have H2 := hid h2
  have H3 := hid h3
  have H4 := hid h4
  have B0 := hid (blkT w (.cells #[.int .u16 a, .int .u16 b] 55) (stCells q s) 37)
  have A0 := hid (blkU w (.cells (stCells q s) 37) #[.int .u16 a, .int .u16 b] 55)
  have M0 := hid trivial
  clear hA hx hl hc h1 h2 h3 h4
  go_enter Try.func10, Try.ntmps10
  have y0 := A0.out.cell 0 _ rfl
  have y1 := A0.out.cell 1 _ rfl
  go_wp2
  go_region_held3 (fun w' => w'.cell? ⟨w.heap.size + 1, 0, none⟩ = some (.int .u16 a) ∧ w'.cell? ⟨w.heap.size + 1, 1, none⟩ = some (.int .u16 b)) (go_keep) (fail)
  rw [IntWalk.i64_in a (by omega), IntWalk.i64_in b (by omega), ra, rb]
  go_wp2_with (first
    | (have m := M0; go_at_call 31; refine (H1.out _ (HX.out.below (by have hq := Below.refl w.heap.size w; (repeat (first | assumption | exact Below.refl _ _ | refine b_alloc ?_ _ | refine Below.drew ?_ | refine b_drewN ?_ _ | refine Below.setCell ?_ (by first | omega | (simp; done) | (simp; omega)) _ | refine b_call (by assumption) ?_))))).mono ?_; rintro e w1 ⟨q1, rfl, hs1, hb1⟩; have HB1 := hid (show Below w.heap.size w w1 from b_call hb1 (by have hq := Below.refl w.heap.size w; (repeat (first | assumption | exact Below.refl _ _ | refine b_alloc ?_ _ | refine Below.drew ?_ | refine b_drewN ?_ _ | refine Below.setCell ?_ (by first | omega | (simp; done) | (simp; omega)) _ | refine b_call (by assumption) ?_)))); have HS1 := hid hs1; have B1 := hid ((Blk.call (Blk.drew B0.out) hb1).alloc (.cells (stCells q1 t) 37)); obtain ⟨⟨x0, x1, x2, x3⟩, x4, x5, x6, x7⟩ := stBlk B1.out; clear hb1 hs1 m M0; have M1 := hid trivial)
    | (have m := M1; go_at_call 31; refine (H2.out q1 _ (HS1.out.below (by have hq := Below.refl w1.heap.size w1; (repeat (first | assumption | exact Below.refl _ _ | refine b_alloc ?_ _ | refine Below.drew ?_ | refine b_drewN ?_ _ | refine Below.setCell ?_ (by first | omega | (simp; done) | (simp; omega)) _ | refine b_call (by assumption) ?_))))).mono ?_; rintro e w2 ⟨q2, rfl, hs2, hb2⟩; have HB2 := hid (show Below w.heap.size w w2 from b_call hb2 (by have hq := HB1.out; (repeat (first | assumption | exact Below.refl _ _ | refine b_alloc ?_ _ | refine Below.drew ?_ | refine b_drewN ?_ _ | refine Below.setCell ?_ (by first | omega | (simp; done) | (simp; omega)) _ | refine b_call (by assumption) ?_)))); have HS2 := hid hs2; have U2 := hid (Blk.new w2 (stCells q2 u) 37); have B2 := hid ((B1.out.call hb2).alloc (.cells (stCells q2 u) 37)); clear x0 x1 x2 x3 x4 x5 x6 x7; obtain ⟨⟨x0, x1, x2, x3⟩, x4, x5, x6, x7⟩ := stBlk B2.out; clear hb2 hs2 m M1; have M2 := hid trivial)
    | (have m := M2; go_at_call 31; refine (H3.out _ (HX.out.below (by have hq := HB2.out; (repeat (first | assumption | exact Below.refl _ _ | refine b_alloc ?_ _ | refine Below.drew ?_ | refine b_drewN ?_ _ | refine Below.setCell ?_ (by first | omega | (simp; done) | (simp; omega)) _ | refine b_call (by assumption) ?_))))).mono ?_; rintro e w3 ⟨q3, rfl, hs3, hb3⟩; have HB3 := hid (show Below w.heap.size w w3 from b_call hb3 (by have hq := HB2.out; (repeat (first | assumption | exact Below.refl _ _ | refine b_alloc ?_ _ | refine Below.drew ?_ | refine b_drewN ?_ _ | refine Below.setCell ?_ (by first | omega | (simp; done) | (simp; omega)) _ | refine b_call (by assumption) ?_)))); have HW3 := hid (show Below w2.heap.size w2 w3 from b_call hb3 (by have hq := Below.refl w2.heap.size w2; (repeat (first | assumption | exact Below.refl _ _ | refine b_alloc ?_ _ | refine Below.drew ?_ | refine b_drewN ?_ _ | refine Below.setCell ?_ (by first | omega | (simp; done) | (simp; omega)) _ | refine b_call (by assumption) ?_)))); have HS3 := hid hs3; have V3 := hid (Blk.new w3 (stCells q3 u) 37); have U3 := hid ((U2.out.call hb3).alloc (.cells (stCells q3 u) 37)); have B3 := hid ((B2.out.call hb3).alloc (.cells (stCells q3 u) 37)); clear x0 x1 x2 x3 x4 x5 x6 x7; obtain ⟨⟨x0, x1, x2, x3⟩, x4, x5, x6, x7⟩ := stBlk B3.out; clear hb3 hs3 m M2; have M3 := hid trivial)
    | (have m := M3; go_at_call 33; refine (H4.out _ (HX.out.below (by have hq := HB3.out; (repeat (first | assumption | exact Below.refl _ _ | refine b_alloc ?_ _ | refine Below.drew ?_ | refine b_drewN ?_ _ | refine Below.setCell ?_ (by first | omega | (simp; done) | (simp; omega)) _ | refine b_call (by assumption) ?_))))).mono ?_; rintro e w4 ⟨v4, rfl, ho4, hb4⟩; obtain ⟨a4, c4, rfl⟩ := rowLen' ho4; have HB4 := hid (show Below w.heap.size w w4 from b_call hb4 (by have hq := HB3.out; (repeat (first | assumption | exact Below.refl _ _ | refine b_alloc ?_ _ | refine Below.drew ?_ | refine b_drewN ?_ _ | refine Below.setCell ?_ (by first | omega | (simp; done) | (simp; omega)) _ | refine b_call (by assumption) ?_)))); have HO4 := hid ho4; have V4 := hid (V3.out.call hb4); have U4 := hid (U3.out.call hb4); have B4 := hid (B3.out.call hb4); have HW4 := hid (show Below w3.heap.size w3 w4 from b_call hb4 (by have hq := Below.refl w3.heap.size w3; (repeat (first | assumption | exact Below.refl _ _ | refine b_alloc ?_ _ | refine Below.drew ?_ | refine b_drewN ?_ _ | refine Below.setCell ?_ (by first | omega | (simp; done) | (simp; omega)) _ | refine b_call (by assumption) ?_)))); clear x0 x1 x2 x3 x4 x5 x6 x7; obtain ⟨⟨x0, x1, x2, x3⟩, x4, x5, x6, x7⟩ := stBlk U4.out; obtain ⟨⟨y0, y1, y2, y3⟩, y4, y5, y6, y7⟩ := stBlk V4.out; clear hb4 ho4 m M3; have M4 := hid trivial)
    | (have m := M4; go_at_call 30; refine (States_same _ _ u HL.out _ (HS2.out.below (b_call HW4.out HW3.out)) (HS3.out.below HW4.out)).mono ?_; rintro e w5 ⟨rfl, hb5⟩; have HB5 := hid (b_call hb5 HB4.out); have HW5 := hid hb5; clear x0 x1 x2 x3 x4 x5 x6 x7 y0 y1 y2 y3 y4 y5 y6 y7; have B5 := hid (B4.out.call hb5); have V5 := hid (V4.out.call hb5); obtain ⟨⟨x0, x1, x2, x3⟩, x4, x5, x6, x7⟩ := stBlk B5.out; obtain ⟨⟨y0, y1, y2, y3⟩, y4, y5, y6, y7⟩ := stBlk V5.out; clear hb5 m M4))
  have HROW := hid (show 0 < l.length → ∃ gb, a4 = some ⟨gb, 0, none⟩ ∧ ∀ j v, (stpsC l)[j]? = some v → w5.cell? ⟨gb, j, none⟩ = some v from fun hn => by
    obtain ⟨gb, c, e, h⟩ := rowMany HO4.out hn
    injection e with e1 e2 e3
    exact ⟨gb, e1, fun j v hj => cell_later HW5.out (h j v hj)⟩)
  go_region_held3 (fun w' => w'.cell? ⟨w.heap.size, 5, none⟩ = some (.int .i64 s.at_) ∧ w'.cell? ⟨w.heap.size, 4, none⟩ = some (.int .i64 s.time)) (go_keep) (fail)
  clear x0 x1 x2 x3 x4 x5 x6 x7 y0 y1 y2 y3 y4 y5 y6 y7
  have HB6 := hid (show Below w.heap.size w w5.drew from HB5.out.drew)
  have hb56 : Below w5.heap.size w5 w5.drew := (Below.refl _ _).drew
  have V6 := hid (V5.out.call hb56)
  have HROW6 := hid (show 0 < l.length → ∃ gb, a4 = some ⟨gb, 0, none⟩ ∧ ∀ j v, (stpsC l)[j]? = some v → w5.drew.cell? ⟨gb, j, none⟩ = some v from fun hn => by
    obtain ⟨gb, e, h⟩ := HROW.out hn
    exact ⟨gb, e, fun j v hj => cell_later hb56 (h j v hj)⟩)
  clear hb56 hlen
  generalize w5.drew = W0 at *
  go_wp2
  go_loopw [14, 15, 16] (fun av tv iv wr => ∃ k : Nat, k ≤ l.length ∧ av = .int .i64 (f k) ∧ tv = .int .i64 (g k) ∧ iv = .int .i64 (k : Int) ∧ Below W0.heap.size W0 wr) (fun _ _ iv _ => l.length - (intOf iv).toNat)
  case atStart => exact ⟨0, by omega, by rw [HC.out.f0], by rw [HC.out.g0], rfl, Below.refl _ _⟩
  case round =>
    obtain ⟨k, hk, rfl, rfl, rfl, hbr⟩ := hrel
    have HBR := hid hbr
    have VR := hid (V6.out.call hbr)
    obtain ⟨⟨y0, y1, y2, y3⟩, y4, y5, y6, y7⟩ := stBlk VR.out
    by_cases hlt : k < l.length
    · obtain ⟨op, fr, tt, nx, hat, hwe, hgr, neg, hf⟩ := HC.out.st k hlt
      obtain ⟨b1, b2⟩ := HC.out.bd k (by omega)
      obtain ⟨b3, b4⟩ := HC.out.bd (k + 1) (by omega)
      obtain ⟨gb, rfl, hcl⟩ := HROW6.out (by omega)
      have c0 := cell_later hbr (hcl (k * 7) _ (stps_at l k 0 _ _ _ rfl hat rfl))
      have c1 := cell_later hbr (hcl (k * 7 + 1) _ (stps_at l k 1 _ _ _ rfl hat rfl))
      have c2 := cell_later hbr (hcl (k * 7 + 2) _ (stps_at l k 2 _ _ _ rfl hat rfl))
      have c3 := cell_later hbr (hcl (k * 7 + 3) _ (stps_at l k 3 _ _ _ rfl hat rfl))
      have c4 := cell_later hbr (hcl (k * 7 + 4) _ (stps_at l k 4 _ _ _ rfl hat rfl))
      have c5 := cell_later hbr (hcl (k * 7 + 5) _ (stps_at l k 5 _ _ _ rfl hat rfl))
      have c6 := cell_later hbr (hcl (k * 7 + 6) _ (stps_at l k 6 _ _ _ rfl hat rfl))
      have hnx : k + 1 < l.length → wr.cell? ⟨gb, (k + 1) * 7, none⟩ = some (.int .i64 (f (k + 1))) := fun h => by
        obtain ⟨_, _, _, _, hat', _⟩ := HC.out.st (k + 1) h
        exact cell_later hbr (hcl ((k + 1) * 7) _ (stps_at l (k + 1) 0 _ _ _ rfl hat' rfl))
      have w1 := fun W => When_any ⟨op, fr, tt, nx⟩ (g k) false W
      have w2 := fun W => When_any ⟨op, fr, tt, nx⟩ (g k) true W
      rw [hwe, when_val hwe] at w1 w2
      have hq : (folOf ⟨op, fr, tt, nx⟩ (g k) false = (f (k + 1), g (k + 1))) ∨ (folOf ⟨op, fr, tt, nx⟩ (g k) true = (f (k + 1), g (k + 1))) := by
        cases neg
        · exact .inl hf
        · exact .inr hf
      have hend : k + 1 = l.length → u.at_ = f (k + 1) := fun h => by rw [h, HC.out.fl]
      clear hf hat hwe hcl
      generalize folOf ⟨op, fr, tt, nx⟩ (g k) false = p at *
      generalize folOf ⟨op, fr, tt, nx⟩ (g k) true = r at *
      obtain ⟨z, U⟩ := p
      obtain ⟨y, V⟩ := r
      have hrel' : ∀ wz, Below W0.heap.size W0 wz → ∃ k' : Nat, k' ≤ l.length ∧ Value.int .i64 (f (k + 1)) = .int .i64 (f k') ∧ Value.int .i64 (g (k + 1)) = .int .i64 (g k') ∧ Value.int .i64 ((k : Int) + 1) = .int .i64 (k' : Int) ∧ Below W0.heap.size W0 wz := fun wz hz => ⟨k + 1, by omega, rfl, rfl, by push_cast; rfl, hz⟩
      have HREL := hid hrel'
      clear hrel'
      generalize f (k + 1) = F at *
      generalize g (k + 1) = G at *
      generalize f k = fk at *
      generalize g k = gk at *
      have hq4 : (z = F ∧ U = G) ∨ (z = F ∧ ¬ U = G ∧ V = G) ∨ (¬ z = F ∧ y = F ∧ U = G) ∨ (¬ z = F ∧ y = F ∧ ¬ U = G ∧ V = G) := by
        rcases hq with e | e
        · injection e with e1 e2; exact .inl ⟨e1, e2⟩
        · injection e with e1 e2
          by_cases q1 : z = F
          · by_cases q2 : U = G
            · exact .inl ⟨q1, q2⟩
            · exact .inr (.inl ⟨q1, q2, e2⟩)
          · by_cases q2 : U = G
            · exact .inr (.inr (.inl ⟨q1, e1, q2⟩))
            · exact .inr (.inr (.inr ⟨q1, e1, q2, e2⟩))
      have W1 := hid w1
      have W2 := hid w2
      clear hq w1 w2 hbr
      have hng : ¬ G ≤ gk := by omega
      rcases (by omega : k + 1 < l.length ∨ k + 1 = l.length) with hk1 | hk1
      · have d0 := hnx hk1
        clear hnx hend
        rcases hq4 with ⟨rfl, rfl⟩ | ⟨rfl, q2, rfl⟩ | ⟨q1, rfl, rfl⟩ | ⟨q1, rfl, q2, rfl⟩
        all_goals
          have M5 := hid trivial
          go_wp2_with (first
            | (have m := M5; go_at_call 24; refine (W1.out _).mono ?_; rintro e w6 ⟨rfl, hb6⟩; have HB6 := hid hb6; replace c0 := cell_later hb6 c0; replace c1 := cell_later hb6 c1; replace c2 := cell_later hb6 c2; replace c3 := cell_later hb6 c3; replace c4 := cell_later hb6 c4; replace c5 := cell_later hb6 c5; replace c6 := cell_later hb6 c6; replace d0 := cell_later hb6 d0; clear hb6 m M5; have M6 := hid trivial)
            | (have m := M6; go_at_call 24; refine (W2.out _).mono ?_; rintro e w7 ⟨rfl, hb7⟩; have HB7 := hid (b_call hb7 HB6.out); replace c0 := cell_later hb7 c0; replace c1 := cell_later hb7 c1; replace c2 := cell_later hb7 c2; replace c3 := cell_later hb7 c3; replace c4 := cell_later hb7 c4; replace c5 := cell_later hb7 c5; replace c6 := cell_later hb7 c6; replace d0 := cell_later hb7 d0; clear hb7 m M6))
          go_roundw
          case rel => exact HREL.out _ (b_call HB7.out HBR.out)
          case measure => simp [intOf]; omega
      · have hua := hend hk1
        have hkl : ¬ ((k : Int) + 1 < (l.length : Int)) := by omega
        have hkm : ((k : Int) + 1 == (l.length : Int)) = true := by rw [beq_iff_eq]; omega
        rw [hua] at y5
        have HK1 := hid hk1
        clear hk1 hua hnx hend y0 y1 y2 y3 y4 y6 y7
        rcases hq4 with ⟨rfl, rfl⟩ | ⟨rfl, q2, rfl⟩ | ⟨q1, rfl, rfl⟩ | ⟨q1, rfl, q2, rfl⟩
        all_goals
          have M5 := hid trivial
          go_wp2_with (first
            | (have m := M5; go_at_call 24; refine (W1.out _).mono ?_; rintro e w6 ⟨rfl, hb6⟩; have HB6 := hid hb6; replace c0 := cell_later hb6 c0; replace c1 := cell_later hb6 c1; replace c2 := cell_later hb6 c2; replace c3 := cell_later hb6 c3; replace c4 := cell_later hb6 c4; replace c5 := cell_later hb6 c5; replace c6 := cell_later hb6 c6; replace y5 := cell_later hb6 y5; clear hb6 m M5; have M6 := hid trivial)
            | (have m := M6; go_at_call 24; refine (W2.out _).mono ?_; rintro e w7 ⟨rfl, hb7⟩; have HB7 := hid (b_call hb7 HB6.out); replace c0 := cell_later hb7 c0; replace c1 := cell_later hb7 c1; replace c2 := cell_later hb7 c2; replace c3 := cell_later hb7 c3; replace c4 := cell_later hb7 c4; replace c5 := cell_later hb7 c5; replace c6 := cell_later hb7 c6; replace y5 := cell_later hb7 y5; clear hb7 m M6))
          go_roundw
          case rel => exact HREL.out _ (b_call HB7.out HBR.out)
          case measure => simp [intOf]; omega
    · obtain rfl : k = l.length := by omega
      rw [HC.out.fl, HC.out.gl]
      clear hbr
      go_wp2_with (go_at_call 23; refine (HA.out _).mono ?_; rintro e w7 ⟨rfl, hb7⟩; have HB7 := hid (b_call hb7 HBR.out); clear hb7)
      go_ret
      exact ⟨rfl, HB6.out.trans (HB7.out.mono HB6.out.size)⟩
set_option maxRecDepth 100000 in
theorem cut_no (hA : AwakeTrue) (w : World) (q : Sl) (s : St) (hx : StAt w q s) (a b A er : Int) (ha : 0 ≤ a ∧ a ≤ 65535) (hb : 0 ≤ b ∧ b ≤ 65535) (ra : a.tmod 2500 = A) (hne : er ≠ 0)
    (h1 : ∀ W, StAt W q s → Calls Try.prog 31 #[stVal q s, .int .i64 A] W (RetS W st0 er)) : Calls Try.prog 10 #[stVal q s, arr2 a b] w (Ret w (.bool true)) := by
  have HA := hid hA
  have HX := hid hx
  have H1 := hid h1
  have B0 := hid (blkT w (.cells #[.int .u16 a, .int .u16 b] 55) (stCells q s) 37)
  have A0 := hid (blkU w (.cells (stCells q s) 37) #[.int .u16 a, .int .u16 b] 55)
  have hne' : (er != 0) = true := by simpa using hne
  have M0 := hid trivial
  clear hA hx h1 hne
  go_enter Try.func10, Try.ntmps10
  have y0 := A0.out.cell 0 _ rfl
  have y1 := A0.out.cell 1 _ rfl
  go_wp2
  go_region_held3 (fun w' => w'.cell? ⟨w.heap.size + 1, 0, none⟩ = some (.int .u16 a) ∧ w'.cell? ⟨w.heap.size + 1, 1, none⟩ = some (.int .u16 b)) (go_keep) (fail)
  rw [IntWalk.i64_in a (by omega), IntWalk.i64_in b (by omega), ra]
  go_wp2_with (first
    | (have m := M0; go_at_call 31; refine (H1.out _ (HX.out.below (by have hq := Below.refl w.heap.size w; (repeat (first | assumption | exact Below.refl _ _ | refine b_alloc ?_ _ | refine Below.drew ?_ | refine b_drewN ?_ _ | refine Below.setCell ?_ (by first | omega | (simp; done) | (simp; omega)) _ | refine b_call (by assumption) ?_))))).mono ?_; rintro e w1 ⟨q1, rfl, hs1, hb1⟩; have HB1 := hid (show Below w.heap.size w w1 from b_call hb1 (by have hq := Below.refl w.heap.size w; (repeat (first | assumption | exact Below.refl _ _ | refine b_alloc ?_ _ | refine Below.drew ?_ | refine b_drewN ?_ _ | refine Below.setCell ?_ (by first | omega | (simp; done) | (simp; omega)) _ | refine b_call (by assumption) ?_)))); obtain ⟨⟨x0, x1, x2, x3⟩, x4, x5, x6, x7⟩ := stBlk (Blk.new w1 (stCells q1 st0) 37); have e1 : st0.store.length = 0 := rfl; clear hb1 hs1 m M0)
    | (go_at_call 23; refine (HA.out _).mono ?_; rintro e w7 ⟨rfl, hb7⟩; have HB7 := hid (show Below w.heap.size w w7 from b_call hb7 (by have hq := HB1.out; (repeat (first | assumption | exact Below.refl _ _ | refine b_alloc ?_ _ | refine Below.drew ?_ | refine b_drewN ?_ _ | refine Below.setCell ?_ (by first | omega | (simp; done) | (simp; omega)) _ | refine b_call (by assumption) ?_)))); clear hb7))
  go_ret
  exact ⟨rfl, HB7.out⟩
theorem cut_any (hA : AwakeTrue) (w : World) (q : Sl) (s : St) (hl : StLen s) (hx : StAt w q s) (a b : Int) (ha : 0 ≤ a ∧ a ≤ 65535) (hb : 0 ≤ b ∧ b ≤ 65535) : Calls Try.prog 10 #[stVal q s, arr2 a b] w (Ret w (.bool true)) := by
  have ra : a.tmod 2500 = a % 2500 := Int.tmod_eq_emod_of_nonneg ha.1
  have rb : b.tmod 2500 = b % 2500 := Int.tmod_eq_emod_of_nonneg hb.1
  by_cases he : askErr s (a % 2500) = 0
  · obtain ⟨e1, hs, h0, h5⟩ := run_of_ok he
    have hok := run_ok (a % 2500).toNat hs
    have hokn := run_ok ((a % 2500).toNat + (b % 2500).toNat) hs
    have he2 : askErr (St.run (a % 2500).toNat s) (b % 2500) = 0 := by unfold askErr; rw [chk_ok hok, if_pos rfl, if_pos (by omega)]
    have he3 : askErr s (a % 2500 + b % 2500) = 0 := by unfold askErr; rw [chk_ok hs, if_pos rfl, if_pos (by omega)]
    have en : (a % 2500 + b % 2500).toNat = (a % 2500).toNat + (b % 2500).toNat := by omega
    obtain ⟨g1, g2, g3, g4⟩ := run_grows ((a % 2500).toNat + (b % 2500).toNat) hs
    have hlen := trace_len ((a % 2500).toNat + (b % 2500).toNat) s
    have hns := hs.num
    have hnn := hokn.num
    have d1 : 0 ≤ s.done := hns.2.2.2.1.1
    have d2 : (St.run ((a % 2500).toNat + (b % 2500).toNat) s).done ≤ 1000000000 := by
      obtain ⟨_, t1, _, t2, _⟩ := hnn
      unfold Tm at t1
      omega
    refine cut_ok hA w q s (St.run (a % 2500).toNat s) (St.run ((a % 2500).toNat + (b % 2500).toNat) s) hx (len_ok hokn) a b _ _ ha hb ra rb (by omega) (by omega) (St.trace ((a % 2500).toNat + (b % 2500).toNat) s) _ _ (cut_all hs _) hlen ⟨d1, d2⟩ (by omega)
      (fun W h => ?_) (fun q' W h => ?_) (fun W h => ?_) (fun W h => ?_)
    · have := Run_any q s hl (a % 2500) W h
      rw [he] at this
      unfold runOf at this
      rwa [if_pos he] at this
    · have := Run_any q' _ (len_ok hok) (b % 2500) W h
      rw [he2] at this
      unfold runOf at this
      rwa [if_pos he2, ← run_add] at this
    · have := Run_any q s hl (a % 2500 + b % 2500) W h
      rw [he3] at this
      unfold runOf at this
      rwa [if_pos he3, en] at this
    · have := Trace_any q s hl (a % 2500 + b % 2500) W h
      rw [he3] at this
      unfold traceOf at this
      rwa [if_pos he3, en] at this
  · refine cut_no hA w q s hx a b _ _ ha hb ra he (fun W h => ?_)
    have := Run_any q s hl (a % 2500) W h
    unfold runOf at this
    rwa [if_neg he] at this
end Go.Proofs.Ytbfhgcnfhjhgcaa
