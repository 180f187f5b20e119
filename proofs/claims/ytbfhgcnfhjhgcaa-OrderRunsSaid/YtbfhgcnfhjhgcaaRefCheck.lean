/-
  The reference's odd, Check, asked.
-/
import Derived.Test.YtbfhgcnfhjhgcaaCheck
namespace Go.Proofs.Ytbfhgcnfhjhgcaa
open Go.RowKit
set_option linter.unusedVariables false
set_option linter.unusedSimpArgs false

set_option maxRecDepth 100000 in
set_option maxHeartbeats 2000000 in
theorem odd_any (a : Option Addr) (cap : Nat) (xs : List Int) (hlen : Len xs.length) (w : World) (hx : IntsAt w a xs) :
    Calls Try.prog 55 #[.slice a xs.length cap] w fun e w' => e = .returned (.int .i64 (outW xs)) ∧ w = w' := by
  have HX := hid hx
  clear hx
  go_enter Try.func55, Try.ntmps55
  go_wp2
  go_loop [3] (fun i => ∃ k : Nat, k ≤ xs.length ∧ i = .int .i64 k ∧ ∀ j, j < k → isOut 0 16777215 (xs[j]?.getD 0) = false) (fun i => xs.length - (intOf i).toNat)
  case atStart => exact ⟨0, Nat.zero_le _, rfl, fun j hj => by omega⟩
  case round =>
    obtain ⟨k, hk, rfl, hno⟩ := hrel
    have HNO := hid hno
    clear hno
    by_cases hlt : k < xs.length
    · obtain ⟨b, off, rfl, hc⟩ := HX.out k hlt
      obtain ⟨x, hxk⟩ : ∃ x, xs[k]?.getD 0 = x := ⟨_, rfl⟩
      rw [hxk] at hc
      have k0 : (0 : Int) ≤ (k : Int) := by omega
      have k1 : (k : Int) < (xs.length : Int) := by omega
      have hcl := Word_any x w
      have HXK := hid hxk
      clear hxk
      by_cases hq : Wd x
      · rw [decide_eq_true hq] at hcl
        have HCL := hid hcl
        have HQ := hid (show isOut 0 16777215 x = false from isOut_no.2 hq)
        clear hcl hq
        go_wp2_with (go_at_call 39; refine HCL.out.mono ?_; rintro e w' ⟨rfl, rfl⟩)
        go_round
        case rel => exact ⟨k + 1, by omega, by go_num, fun j hj => by
          by_cases e : j = k
          · rw [e, HXK.out, HQ.out]
          · exact HNO.out j (by omega)⟩
        case measure => simp [intOf]; omega
      · rw [decide_eq_false hq] at hcl
        have HCL := hid hcl
        have HQ := hid (show isOut 0 16777215 x = true by
          cases hh : isOut 0 16777215 x with
          | true => rfl
          | false => exact absurd (isOut_no.1 hh) hq)
        clear hcl hq
        go_wp2_with (go_at_call 39; refine HCL.out.mono ?_; rintro e w' ⟨rfl, rfl⟩)
        go_ret
        exact ⟨ret_int (outOf_some hlt (by rw [HXK.out, HQ.out]) HNO.out).symm, rfl⟩
    · obtain rfl : k = xs.length := by omega
      go_wp2
      go_ret
      refine ⟨ret_int (outOf_none fun x hx => ?_).symm, rfl⟩
      obtain ⟨j, hj, rfl⟩ := List.mem_iff_getElem.1 hx
      have := HNO.out j hj
      rw [isOut_no] at this
      simpa [hj] using this
set_option maxRecDepth 100000 in
set_option maxHeartbeats 2000000 in
theorem refCheck_long (q : Sl) (s : St) (h : ¬ lensOk s) (w : World) : Calls Try.prog 27 #[stVal q s] w (Ret w (val3 1 0 3)) := by
  unfold lensOk at h
  by_cases h1 : s.store.length = 128
  · by_cases h2 : s.tape.length ≤ 200
    · have h3 : (200 : Int) < (s.printed.length : Int) := by omega
      have h2' : ¬ (200 : Int) < (s.tape.length : Int) := by omega
      clear h h2
      go_enter Try.func27, Try.ntmps27
      go_wp2
      go_ret3
      exact ⟨rfl, by (repeat (first | assumption | exact Below.refl _ _ | refine b_alloc ?_ _ | refine Below.drew ?_ | refine b_drewN ?_ _ | refine Below.setCell ?_ (by first | omega | (simp; done) | (simp; omega)) _ | refine b_call (by assumption) ?_))⟩
    · have h2' : (200 : Int) < (s.tape.length : Int) := by omega
      clear h h2
      go_enter Try.func27, Try.ntmps27
      go_wp2
      go_ret3
      exact ⟨rfl, by (repeat (first | assumption | exact Below.refl _ _ | refine b_alloc ?_ _ | refine Below.drew ?_ | refine b_drewN ?_ _ | refine Below.setCell ?_ (by first | omega | (simp; done) | (simp; omega)) _ | refine b_call (by assumption) ?_))⟩
  · have h1' : ((s.store.length : Int) != 128) = true := by simp; omega
    clear h
    go_enter Try.func27, Try.ntmps27
    go_wp2
    go_ret3
    exact ⟨rfl, by (repeat (first | assumption | exact Below.refl _ _ | refine b_alloc ?_ _ | refine Below.drew ?_ | refine b_drewN ?_ _ | refine Below.setCell ?_ (by first | omega | (simp; done) | (simp; omega)) _ | refine b_call (by assumption) ?_))⟩

set_option maxRecDepth 100000 in
set_option maxHeartbeats 4000000 in
theorem refCheck_word0 (q : Sl) (s : St) (hl : lensOk s) (h1 : 0 ≤ outW s.store) (w : World) (hx : StAt w q s) : Calls Try.prog 27 #[stVal q s] w (Ret w (val3 2 (outW s.store) 7)) := by
  unfold lensOk at hl
  obtain ⟨l1, l2, l3⟩ := hl
  have B0 := hid (Blk.new w (stCells q s) 37)
  have HB := hid (b_alloc (Below.refl w.heap.size w) (.cells (stCells q s) 37))
  have HX := hid hx
  have H1 := hid (fun W a c g => odd_any a c s.store (by unfold Len; omega) W g)
  have H2 := hid (fun W a c g => odd_any a c s.tape (by unfold Len; omega) W g)
  have H3 := hid (fun W a c g => odd_any a c s.printed (by unfold Len; omega) W g)
  have l2' : ¬ (200 : Int) < (s.tape.length : Int) := by omega
  have l3' : ¬ (200 : Int) < (s.printed.length : Int) := by omega
  generalize outW s.store = p1 at *
  generalize outW s.tape = p2 at *
  generalize outW s.printed = p3 at *
  rw [l1] at H1
  clear hx l2 l3
  have B1 := hid (Blk.new (w.alloc (.cells (stCells q s) 37)) #[.slice q.a 128 q.ca, .slice q.b s.tape.length q.cb, .slice q.c s.printed.length q.cc] 35)
  have L1 := hid l1
  go_enter Try.func27, Try.ntmps27
  go_wp2
  have hB2 := b_alloc HB.out (.cells #[.slice q.a 128 q.ca, .slice q.b s.tape.length q.cb, .slice q.c s.printed.length q.cc] 35)
  have B2 := hid (B0.out.alloc (.cells #[.slice q.a 128 q.ca, .slice q.b s.tape.length q.cb, .slice q.c s.printed.length q.cc] 35))
  have hb1 := B1.out
  rw [World.size_alloc] at hb1
  have HX2 := hid (HX.out.below hB2)
  have HB2 := hid hB2
  have B3 := hid hb1
  clear hb1 hB2
  generalize (w.alloc (.cells (stCells q s) 37)).alloc (.cells #[.slice q.a 128 q.ca, .slice q.b s.tape.length q.cb, .slice q.c s.printed.length q.cc] 35) = W0 at *
  go_loopw [6] (fun iv wr => ∃ k : Nat, k ≤ 0 ∧ iv = .int .i64 (k : Int) ∧ Below W0.heap.size W0 wr) (fun iv _ => 3 - (intOf iv).toNat)
  case atStart => exact ⟨0, by omega, rfl, Below.refl _ _⟩
  case round =>
    obtain ⟨k, hk, rfl, hbr⟩ := hrel
    have HBR := hid hbr
    clear hbr
    rcases (by omega : k = 0) with rfl
    · have c0 := (B3.out.call HBR.out).cell 0 _ rfl
      simp only [List.getElem_toArray, List.getElem_cons_succ, List.getElem_cons_zero] at c0
      go_wp2_with (go_at_call 55; refine (H1.out _ _ _ (HX2.out.1.below HBR.out)).mono ?_; rintro e w1 ⟨rfl, rfl⟩)
      go_ret3
      exact ⟨rfl, HB2.out.trans (HBR.out.mono HB2.out.size)⟩

set_option maxRecDepth 100000 in
set_option maxHeartbeats 4000000 in
theorem refCheck_word1 (q : Sl) (s : St) (hl : lensOk s) (h1 : outW s.store = -1) (h2 : 0 ≤ outW s.tape) (w : World) (hx : StAt w q s) : Calls Try.prog 27 #[stVal q s] w (Ret w (val3 3 (outW s.tape) 7)) := by
  unfold lensOk at hl
  obtain ⟨l1, l2, l3⟩ := hl
  have B0 := hid (Blk.new w (stCells q s) 37)
  have HB := hid (b_alloc (Below.refl w.heap.size w) (.cells (stCells q s) 37))
  have HX := hid hx
  have H1 := hid (fun W a c g => odd_any a c s.store (by unfold Len; omega) W g)
  have H2 := hid (fun W a c g => odd_any a c s.tape (by unfold Len; omega) W g)
  have H3 := hid (fun W a c g => odd_any a c s.printed (by unfold Len; omega) W g)
  have l2' : ¬ (200 : Int) < (s.tape.length : Int) := by omega
  have l3' : ¬ (200 : Int) < (s.printed.length : Int) := by omega
  rw [h1] at H1
  clear h1
  generalize outW s.tape = p2 at *
  generalize outW s.printed = p3 at *
  rw [l1] at H1
  clear hx l2 l3
  have B1 := hid (Blk.new (w.alloc (.cells (stCells q s) 37)) #[.slice q.a 128 q.ca, .slice q.b s.tape.length q.cb, .slice q.c s.printed.length q.cc] 35)
  have L1 := hid l1
  go_enter Try.func27, Try.ntmps27
  go_wp2
  have hB2 := b_alloc HB.out (.cells #[.slice q.a 128 q.ca, .slice q.b s.tape.length q.cb, .slice q.c s.printed.length q.cc] 35)
  have B2 := hid (B0.out.alloc (.cells #[.slice q.a 128 q.ca, .slice q.b s.tape.length q.cb, .slice q.c s.printed.length q.cc] 35))
  have hb1 := B1.out
  rw [World.size_alloc] at hb1
  have HX2 := hid (HX.out.below hB2)
  have HB2 := hid hB2
  have B3 := hid hb1
  clear hb1 hB2
  generalize (w.alloc (.cells (stCells q s) 37)).alloc (.cells #[.slice q.a 128 q.ca, .slice q.b s.tape.length q.cb, .slice q.c s.printed.length q.cc] 35) = W0 at *
  go_loopw [6] (fun iv wr => ∃ k : Nat, k ≤ 1 ∧ iv = .int .i64 (k : Int) ∧ Below W0.heap.size W0 wr) (fun iv _ => 3 - (intOf iv).toNat)
  case atStart => exact ⟨0, by omega, rfl, Below.refl _ _⟩
  case round =>
    obtain ⟨k, hk, rfl, hbr⟩ := hrel
    have HBR := hid hbr
    clear hbr
    rcases (by omega : k = 0 ∨ k = 1) with rfl | rfl
    · have c0 := (B3.out.call HBR.out).cell 0 _ rfl
      simp only [List.getElem_toArray, List.getElem_cons_succ, List.getElem_cons_zero] at c0
      go_wp2_with (go_at_call 55; refine (H1.out _ _ _ (HX2.out.1.below HBR.out)).mono ?_; rintro e w1 ⟨rfl, rfl⟩)
      go_roundw
      case rel => exact ⟨1, by omega, rfl, HBR.out⟩
      case measure => simp [intOf]
    · have c0 := (B3.out.call HBR.out).cell 1 _ rfl
      simp only [List.getElem_toArray, List.getElem_cons_succ, List.getElem_cons_zero] at c0
      go_wp2_with (go_at_call 55; refine (H2.out _ _ _ (HX2.out.2.1.below HBR.out)).mono ?_; rintro e w1 ⟨rfl, rfl⟩)
      go_ret3
      exact ⟨rfl, HB2.out.trans (HBR.out.mono HB2.out.size)⟩

set_option maxRecDepth 100000 in
set_option maxHeartbeats 4000000 in
theorem refCheck_word2 (q : Sl) (s : St) (hl : lensOk s) (h1 : outW s.store = -1) (h2 : outW s.tape = -1) (h3 : 0 ≤ outW s.printed) (w : World) (hx : StAt w q s) : Calls Try.prog 27 #[stVal q s] w (Ret w (val3 4 (outW s.printed) 7)) := by
  unfold lensOk at hl
  obtain ⟨l1, l2, l3⟩ := hl
  have B0 := hid (Blk.new w (stCells q s) 37)
  have HB := hid (b_alloc (Below.refl w.heap.size w) (.cells (stCells q s) 37))
  have HX := hid hx
  have H1 := hid (fun W a c g => odd_any a c s.store (by unfold Len; omega) W g)
  have H2 := hid (fun W a c g => odd_any a c s.tape (by unfold Len; omega) W g)
  have H3 := hid (fun W a c g => odd_any a c s.printed (by unfold Len; omega) W g)
  have l2' : ¬ (200 : Int) < (s.tape.length : Int) := by omega
  have l3' : ¬ (200 : Int) < (s.printed.length : Int) := by omega
  rw [h1] at H1
  rw [h2] at H2
  clear h1 h2
  generalize outW s.printed = p3 at *
  rw [l1] at H1
  clear hx l2 l3
  have B1 := hid (Blk.new (w.alloc (.cells (stCells q s) 37)) #[.slice q.a 128 q.ca, .slice q.b s.tape.length q.cb, .slice q.c s.printed.length q.cc] 35)
  have L1 := hid l1
  go_enter Try.func27, Try.ntmps27
  go_wp2
  have hB2 := b_alloc HB.out (.cells #[.slice q.a 128 q.ca, .slice q.b s.tape.length q.cb, .slice q.c s.printed.length q.cc] 35)
  have B2 := hid (B0.out.alloc (.cells #[.slice q.a 128 q.ca, .slice q.b s.tape.length q.cb, .slice q.c s.printed.length q.cc] 35))
  have hb1 := B1.out
  rw [World.size_alloc] at hb1
  have HX2 := hid (HX.out.below hB2)
  have HB2 := hid hB2
  have B3 := hid hb1
  clear hb1 hB2
  generalize (w.alloc (.cells (stCells q s) 37)).alloc (.cells #[.slice q.a 128 q.ca, .slice q.b s.tape.length q.cb, .slice q.c s.printed.length q.cc] 35) = W0 at *
  go_loopw [6] (fun iv wr => ∃ k : Nat, k ≤ 2 ∧ iv = .int .i64 (k : Int) ∧ Below W0.heap.size W0 wr) (fun iv _ => 3 - (intOf iv).toNat)
  case atStart => exact ⟨0, by omega, rfl, Below.refl _ _⟩
  case round =>
    obtain ⟨k, hk, rfl, hbr⟩ := hrel
    have HBR := hid hbr
    clear hbr
    rcases (by omega : k = 0 ∨ k = 1 ∨ k = 2) with rfl | rfl | rfl
    · have c0 := (B3.out.call HBR.out).cell 0 _ rfl
      simp only [List.getElem_toArray, List.getElem_cons_succ, List.getElem_cons_zero] at c0
      go_wp2_with (go_at_call 55; refine (H1.out _ _ _ (HX2.out.1.below HBR.out)).mono ?_; rintro e w1 ⟨rfl, rfl⟩)
      go_roundw
      case rel => exact ⟨1, by omega, rfl, HBR.out⟩
      case measure => simp [intOf]
    · have c0 := (B3.out.call HBR.out).cell 1 _ rfl
      simp only [List.getElem_toArray, List.getElem_cons_succ, List.getElem_cons_zero] at c0
      go_wp2_with (go_at_call 55; refine (H2.out _ _ _ (HX2.out.2.1.below HBR.out)).mono ?_; rintro e w1 ⟨rfl, rfl⟩)
      go_roundw
      case rel => exact ⟨2, by omega, rfl, HBR.out⟩
      case measure => simp [intOf]
    · have c0 := (B3.out.call HBR.out).cell 2 _ rfl
      simp only [List.getElem_toArray, List.getElem_cons_succ, List.getElem_cons_zero] at c0
      go_wp2_with (go_at_call 55; refine (H3.out _ _ _ (HX2.out.2.2.below HBR.out)).mono ?_; rintro e w1 ⟨rfl, rfl⟩)
      go_ret3
      exact ⟨rfl, HB2.out.trans (HBR.out.mono HB2.out.size)⟩

set_option maxRecDepth 100000 in
set_option maxHeartbeats 4000000 in
theorem refCheck_nums (q : Sl) (s : St) (hl : lensOk s) (h1 : outW s.store = -1) (h2 : outW s.tape = -1) (h3 : outW s.printed = -1) (hn : ¬ numsOk s) (w : World) (hx : StAt w q s) : Calls Try.prog 27 #[stVal q s] w (Ret w (val3 5 0 7)) := by
  unfold lensOk at hl
  obtain ⟨l1, l2, l3⟩ := hl
  have B0 := hid (Blk.new w (stCells q s) 37)
  have HB := hid (b_alloc (Below.refl w.heap.size w) (.cells (stCells q s) 37))
  have HX := hid hx
  have H1 := hid (fun W a c g => odd_any a c s.store (by unfold Len; omega) W g)
  have H2 := hid (fun W a c g => odd_any a c s.tape (by unfold Len; omega) W g)
  have H3 := hid (fun W a c g => odd_any a c s.printed (by unfold Len; omega) W g)
  have l2' : ¬ (200 : Int) < (s.tape.length : Int) := by omega
  have l3' : ¬ (200 : Int) < (s.printed.length : Int) := by omega
  rw [h1] at H1
  rw [h2] at H2
  rw [h3] at H3
  clear h1 h2 h3
  rw [l1] at H1
  have HN := hid hn
  clear hx l2 l3 hn
  have B1 := hid (Blk.new (w.alloc (.cells (stCells q s) 37)) #[.slice q.a 128 q.ca, .slice q.b s.tape.length q.cb, .slice q.c s.printed.length q.cc] 35)
  have L1 := hid l1
  go_enter Try.func27, Try.ntmps27
  go_wp2
  have hB2 := b_alloc HB.out (.cells #[.slice q.a 128 q.ca, .slice q.b s.tape.length q.cb, .slice q.c s.printed.length q.cc] 35)
  have B2 := hid (B0.out.alloc (.cells #[.slice q.a 128 q.ca, .slice q.b s.tape.length q.cb, .slice q.c s.printed.length q.cc] 35))
  have hb1 := B1.out
  rw [World.size_alloc] at hb1
  have HX2 := hid (HX.out.below hB2)
  have HB2 := hid hB2
  have B3 := hid hb1
  clear hb1 hB2
  generalize (w.alloc (.cells (stCells q s) 37)).alloc (.cells #[.slice q.a 128 q.ca, .slice q.b s.tape.length q.cb, .slice q.c s.printed.length q.cc] 35) = W0 at *
  go_loopw [6] (fun iv wr => ∃ k : Nat, k ≤ 3 ∧ iv = .int .i64 (k : Int) ∧ Below W0.heap.size W0 wr) (fun iv _ => 3 - (intOf iv).toNat)
  case atStart => exact ⟨0, by omega, rfl, Below.refl _ _⟩
  case round =>
    obtain ⟨k, hk, rfl, hbr⟩ := hrel
    have HBR := hid hbr
    clear hbr
    rcases (by omega : k = 0 ∨ k = 1 ∨ k = 2 ∨ k = 3) with rfl | rfl | rfl | rfl
    · have c0 := (B3.out.call HBR.out).cell 0 _ rfl
      simp only [List.getElem_toArray, List.getElem_cons_succ, List.getElem_cons_zero] at c0
      go_wp2_with (go_at_call 55; refine (H1.out _ _ _ (HX2.out.1.below HBR.out)).mono ?_; rintro e w1 ⟨rfl, rfl⟩)
      go_roundw
      case rel => exact ⟨1, by omega, rfl, HBR.out⟩
      case measure => simp [intOf]
    · have c0 := (B3.out.call HBR.out).cell 1 _ rfl
      simp only [List.getElem_toArray, List.getElem_cons_succ, List.getElem_cons_zero] at c0
      go_wp2_with (go_at_call 55; refine (H2.out _ _ _ (HX2.out.2.1.below HBR.out)).mono ?_; rintro e w1 ⟨rfl, rfl⟩)
      go_roundw
      case rel => exact ⟨2, by omega, rfl, HBR.out⟩
      case measure => simp [intOf]
    · have c0 := (B3.out.call HBR.out).cell 2 _ rfl
      simp only [List.getElem_toArray, List.getElem_cons_succ, List.getElem_cons_zero] at c0
      go_wp2_with (go_at_call 55; refine (H3.out _ _ _ (HX2.out.2.2.below HBR.out)).mono ?_; rintro e w1 ⟨rfl, rfl⟩)
      go_roundw
      case rel => exact ⟨3, by omega, rfl, HBR.out⟩
      case measure => simp [intOf]
    · have B4 := hid (B2.out.call HBR.out)
      obtain ⟨⟨c0, c1, c2, c3⟩, c4, c5, c6, c7⟩ := stBlk B4.out
      have HN2 := hid HN.out
      by_cases g1 : 0 ≤ s.taken ∧ s.taken ≤ s.tape.length
      · skip
        by_cases g2 : 0 ≤ s.time ∧ s.time ≤ 1000000000
        · skip
          by_cases g3 : 0 ≤ s.at_ ∧ s.at_ ≤ 127
          · skip
            by_cases g4 : 0 ≤ s.done ∧ s.done ≤ s.time
            · skip
              by_cases g5 : 0 ≤ s.why ∧ s.why ≤ 4
              · exact absurd ⟨g1, g2, g3, g4, g5⟩ HN.out
              · go_wp2_with (first | (go_at_call 50; refine (in_any _ _ _ _).mono ?_; rintro e w' ⟨rfl, rfl⟩) | (go_at_call 56; refine (Address_any _ _).mono ?_; rintro e w' ⟨rfl, rfl⟩))
                go_ret3
                exact ⟨rfl, HB2.out.trans (HBR.out.mono HB2.out.size)⟩
            · go_wp2_with (first | (go_at_call 50; refine (in_any _ _ _ _).mono ?_; rintro e w' ⟨rfl, rfl⟩) | (go_at_call 56; refine (Address_any _ _).mono ?_; rintro e w' ⟨rfl, rfl⟩))
              go_ret3
              exact ⟨rfl, HB2.out.trans (HBR.out.mono HB2.out.size)⟩
          · go_wp2_with (first | (go_at_call 50; refine (in_any _ _ _ _).mono ?_; rintro e w' ⟨rfl, rfl⟩) | (go_at_call 56; refine (Address_any _ _).mono ?_; rintro e w' ⟨rfl, rfl⟩))
            go_ret3
            exact ⟨rfl, HB2.out.trans (HBR.out.mono HB2.out.size)⟩
        · go_wp2_with (first | (go_at_call 50; refine (in_any _ _ _ _).mono ?_; rintro e w' ⟨rfl, rfl⟩) | (go_at_call 56; refine (Address_any _ _).mono ?_; rintro e w' ⟨rfl, rfl⟩))
          go_ret3
          exact ⟨rfl, HB2.out.trans (HBR.out.mono HB2.out.size)⟩
      · go_wp2_with (first | (go_at_call 50; refine (in_any _ _ _ _).mono ?_; rintro e w' ⟨rfl, rfl⟩) | (go_at_call 56; refine (Address_any _ _).mono ?_; rintro e w' ⟨rfl, rfl⟩))
        go_ret3
        exact ⟨rfl, HB2.out.trans (HBR.out.mono HB2.out.size)⟩

set_option maxRecDepth 100000 in
set_option maxHeartbeats 4000000 in
theorem refCheck_place (q : Sl) (s : St) (hl : lensOk s) (h1 : outW s.store = -1) (h2 : outW s.tape = -1) (h3 : outW s.printed = -1) (hn : numsOk s) (hp : ¬ s.time % 16 = s.at_ % 16) (w : World) (hx : StAt w q s) : Calls Try.prog 27 #[stVal q s] w (Ret w (val3 6 0 2)) := by
  unfold lensOk at hl
  obtain ⟨l1, l2, l3⟩ := hl
  have B0 := hid (Blk.new w (stCells q s) 37)
  have HB := hid (b_alloc (Below.refl w.heap.size w) (.cells (stCells q s) 37))
  have HX := hid hx
  have H1 := hid (fun W a c g => odd_any a c s.store (by unfold Len; omega) W g)
  have H2 := hid (fun W a c g => odd_any a c s.tape (by unfold Len; omega) W g)
  have H3 := hid (fun W a c g => odd_any a c s.printed (by unfold Len; omega) W g)
  have l2' : ¬ (200 : Int) < (s.tape.length : Int) := by omega
  have l3' : ¬ (200 : Int) < (s.printed.length : Int) := by omega
  rw [h1] at H1
  rw [h2] at H2
  rw [h3] at H3
  clear h1 h2 h3
  rw [l1] at H1
  have HN := hid hn
  have HP := hid hp
  clear hx l2 l3 hn hp
  have B1 := hid (Blk.new (w.alloc (.cells (stCells q s) 37)) #[.slice q.a 128 q.ca, .slice q.b s.tape.length q.cb, .slice q.c s.printed.length q.cc] 35)
  have L1 := hid l1
  go_enter Try.func27, Try.ntmps27
  go_wp2
  have hB2 := b_alloc HB.out (.cells #[.slice q.a 128 q.ca, .slice q.b s.tape.length q.cb, .slice q.c s.printed.length q.cc] 35)
  have B2 := hid (B0.out.alloc (.cells #[.slice q.a 128 q.ca, .slice q.b s.tape.length q.cb, .slice q.c s.printed.length q.cc] 35))
  have hb1 := B1.out
  rw [World.size_alloc] at hb1
  have HX2 := hid (HX.out.below hB2)
  have HB2 := hid hB2
  have B3 := hid hb1
  clear hb1 hB2
  generalize (w.alloc (.cells (stCells q s) 37)).alloc (.cells #[.slice q.a 128 q.ca, .slice q.b s.tape.length q.cb, .slice q.c s.printed.length q.cc] 35) = W0 at *
  go_loopw [6] (fun iv wr => ∃ k : Nat, k ≤ 3 ∧ iv = .int .i64 (k : Int) ∧ Below W0.heap.size W0 wr) (fun iv _ => 3 - (intOf iv).toNat)
  case atStart => exact ⟨0, by omega, rfl, Below.refl _ _⟩
  case round =>
    obtain ⟨k, hk, rfl, hbr⟩ := hrel
    have HBR := hid hbr
    clear hbr
    rcases (by omega : k = 0 ∨ k = 1 ∨ k = 2 ∨ k = 3) with rfl | rfl | rfl | rfl
    · have c0 := (B3.out.call HBR.out).cell 0 _ rfl
      simp only [List.getElem_toArray, List.getElem_cons_succ, List.getElem_cons_zero] at c0
      go_wp2_with (go_at_call 55; refine (H1.out _ _ _ (HX2.out.1.below HBR.out)).mono ?_; rintro e w1 ⟨rfl, rfl⟩)
      go_roundw
      case rel => exact ⟨1, by omega, rfl, HBR.out⟩
      case measure => simp [intOf]
    · have c0 := (B3.out.call HBR.out).cell 1 _ rfl
      simp only [List.getElem_toArray, List.getElem_cons_succ, List.getElem_cons_zero] at c0
      go_wp2_with (go_at_call 55; refine (H2.out _ _ _ (HX2.out.2.1.below HBR.out)).mono ?_; rintro e w1 ⟨rfl, rfl⟩)
      go_roundw
      case rel => exact ⟨2, by omega, rfl, HBR.out⟩
      case measure => simp [intOf]
    · have c0 := (B3.out.call HBR.out).cell 2 _ rfl
      simp only [List.getElem_toArray, List.getElem_cons_succ, List.getElem_cons_zero] at c0
      go_wp2_with (go_at_call 55; refine (H3.out _ _ _ (HX2.out.2.2.below HBR.out)).mono ?_; rintro e w1 ⟨rfl, rfl⟩)
      go_roundw
      case rel => exact ⟨3, by omega, rfl, HBR.out⟩
      case measure => simp [intOf]
    · have B4 := hid (B2.out.call HBR.out)
      obtain ⟨⟨c0, c1, c2, c3⟩, c4, c5, c6, c7⟩ := stBlk B4.out
      obtain ⟨g1, g2, g3, g4, g5⟩ := HN.out
      have t0 : 0 ≤ s.time := g2.1
      have t1 : 0 ≤ s.at_ := g3.1
      have hp2 : (s.time % 16 == s.at_ % 16) = false := by simpa using HP.out
      have hp3 : (s.time % 16 != s.at_ % 16) = true := by simpa using HP.out
      go_wp2_with (first | (go_at_call 50; refine (in_any _ _ _ _).mono ?_; rintro e w' ⟨rfl, rfl⟩) | (go_at_call 56; refine (Address_any _ _).mono ?_; rintro e w' ⟨rfl, rfl⟩))
      go_ret3
      exact ⟨rfl, HB2.out.trans (HBR.out.mono HB2.out.size)⟩

set_option maxRecDepth 100000 in
set_option maxHeartbeats 4000000 in
theorem refCheck_ok (q : Sl) (s : St) (hl : lensOk s) (h1 : outW s.store = -1) (h2 : outW s.tape = -1) (h3 : outW s.printed = -1) (hn : numsOk s) (hp : s.time % 16 = s.at_ % 16) (w : World) (hx : StAt w q s) : Calls Try.prog 27 #[stVal q s] w (Ret w (val3 0 0 0)) := by
  unfold lensOk at hl
  obtain ⟨l1, l2, l3⟩ := hl
  have B0 := hid (Blk.new w (stCells q s) 37)
  have HB := hid (b_alloc (Below.refl w.heap.size w) (.cells (stCells q s) 37))
  have HX := hid hx
  have H1 := hid (fun W a c g => odd_any a c s.store (by unfold Len; omega) W g)
  have H2 := hid (fun W a c g => odd_any a c s.tape (by unfold Len; omega) W g)
  have H3 := hid (fun W a c g => odd_any a c s.printed (by unfold Len; omega) W g)
  have l2' : ¬ (200 : Int) < (s.tape.length : Int) := by omega
  have l3' : ¬ (200 : Int) < (s.printed.length : Int) := by omega
  rw [h1] at H1
  rw [h2] at H2
  rw [h3] at H3
  clear h1 h2 h3
  rw [l1] at H1
  have HN := hid hn
  have HP := hid hp
  clear hx l2 l3 hn hp
  have B1 := hid (Blk.new (w.alloc (.cells (stCells q s) 37)) #[.slice q.a 128 q.ca, .slice q.b s.tape.length q.cb, .slice q.c s.printed.length q.cc] 35)
  have L1 := hid l1
  go_enter Try.func27, Try.ntmps27
  go_wp2
  have hB2 := b_alloc HB.out (.cells #[.slice q.a 128 q.ca, .slice q.b s.tape.length q.cb, .slice q.c s.printed.length q.cc] 35)
  have B2 := hid (B0.out.alloc (.cells #[.slice q.a 128 q.ca, .slice q.b s.tape.length q.cb, .slice q.c s.printed.length q.cc] 35))
  have hb1 := B1.out
  rw [World.size_alloc] at hb1
  have HX2 := hid (HX.out.below hB2)
  have HB2 := hid hB2
  have B3 := hid hb1
  clear hb1 hB2
  generalize (w.alloc (.cells (stCells q s) 37)).alloc (.cells #[.slice q.a 128 q.ca, .slice q.b s.tape.length q.cb, .slice q.c s.printed.length q.cc] 35) = W0 at *
  go_loopw [6] (fun iv wr => ∃ k : Nat, k ≤ 3 ∧ iv = .int .i64 (k : Int) ∧ Below W0.heap.size W0 wr) (fun iv _ => 3 - (intOf iv).toNat)
  case atStart => exact ⟨0, by omega, rfl, Below.refl _ _⟩
  case round =>
    obtain ⟨k, hk, rfl, hbr⟩ := hrel
    have HBR := hid hbr
    clear hbr
    rcases (by omega : k = 0 ∨ k = 1 ∨ k = 2 ∨ k = 3) with rfl | rfl | rfl | rfl
    · have c0 := (B3.out.call HBR.out).cell 0 _ rfl
      simp only [List.getElem_toArray, List.getElem_cons_succ, List.getElem_cons_zero] at c0
      go_wp2_with (go_at_call 55; refine (H1.out _ _ _ (HX2.out.1.below HBR.out)).mono ?_; rintro e w1 ⟨rfl, rfl⟩)
      go_roundw
      case rel => exact ⟨1, by omega, rfl, HBR.out⟩
      case measure => simp [intOf]
    · have c0 := (B3.out.call HBR.out).cell 1 _ rfl
      simp only [List.getElem_toArray, List.getElem_cons_succ, List.getElem_cons_zero] at c0
      go_wp2_with (go_at_call 55; refine (H2.out _ _ _ (HX2.out.2.1.below HBR.out)).mono ?_; rintro e w1 ⟨rfl, rfl⟩)
      go_roundw
      case rel => exact ⟨2, by omega, rfl, HBR.out⟩
      case measure => simp [intOf]
    · have c0 := (B3.out.call HBR.out).cell 2 _ rfl
      simp only [List.getElem_toArray, List.getElem_cons_succ, List.getElem_cons_zero] at c0
      go_wp2_with (go_at_call 55; refine (H3.out _ _ _ (HX2.out.2.2.below HBR.out)).mono ?_; rintro e w1 ⟨rfl, rfl⟩)
      go_roundw
      case rel => exact ⟨3, by omega, rfl, HBR.out⟩
      case measure => simp [intOf]
    · have B4 := hid (B2.out.call HBR.out)
      obtain ⟨⟨c0, c1, c2, c3⟩, c4, c5, c6, c7⟩ := stBlk B4.out
      obtain ⟨g1, g2, g3, g4, g5⟩ := HN.out
      have t0 : 0 ≤ s.time := g2.1
      have t1 : 0 ≤ s.at_ := g3.1
      have hp2 : (s.time % 16 == s.at_ % 16) = true := by simpa using HP.out
      have hp3 : (s.time % 16 != s.at_ % 16) = false := by simpa using HP.out
      go_wp2_with (first | (go_at_call 50; refine (in_any _ _ _ _).mono ?_; rintro e w' ⟨rfl, rfl⟩) | (go_at_call 56; refine (Address_any _ _).mono ?_; rintro e w' ⟨rfl, rfl⟩))
      go_ret3
      exact ⟨rfl, HB2.out.trans (HBR.out.mono HB2.out.size)⟩

theorem refCheck_any (q : Sl) (s : St) (hl : StLen s) (w : World) (hx : StAt w q s) : Calls Try.prog 27 #[stVal q s] w (Ret w (val3 (chk s).1 (chk s).2.1 (chk s).2.2)) := by
  unfold chk
  by_cases h : lensOk s
  · rw [if_pos h]
    rcases outW_cases s.store with h1 | h1
    · rw [if_neg (by omega)]
      rcases outW_cases s.tape with h2 | h2
      · rw [if_neg (by omega)]
        rcases outW_cases s.printed with h3 | h3
        · rw [if_neg (by omega)]
          by_cases hn : numsOk s
          · rw [if_pos hn]
            by_cases hp : s.time % 16 = s.at_ % 16
            · rw [if_pos hp]; exact refCheck_ok q s h h1 h2 h3 hn hp w hx
            · rw [if_neg hp]; exact refCheck_place q s h h1 h2 h3 hn hp w hx
          · rw [if_neg hn]; exact refCheck_nums q s h h1 h2 h3 hn w hx
        · rw [if_pos h3]; exact refCheck_word2 q s h h1 h2 h3 w hx
      · rw [if_pos h2]; exact refCheck_word1 q s h h1 h2 w hx
    · rw [if_pos h1]; exact refCheck_word0 q s h h1 w hx
  · rw [if_neg h]; exact refCheck_long q s h w
end Go.Proofs.Ytbfhgcnfhjhgcaa
