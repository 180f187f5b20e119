/-
  Check: the part, the index in it and the error of a state.
-/
import Derived.Test.YtbfhgcnfhjhgcaaState
namespace Go.Proofs.Ytbfhgcnfhjhgcaa
open Go.RowKit
set_option linter.unusedVariables false
set_option linter.unusedSimpArgs false

def outW (xs : List Int) : Int := outOf 0 16777215 xs
def lensOk (s : St) : Prop := s.store.length = 128 ∧ s.tape.length ≤ 200 ∧ s.printed.length ≤ 200
instance (s : St) : Decidable (lensOk s) := by unfold lensOk; infer_instance
def chk (s : St) : Int × Int × Int :=
  if lensOk s then
    (if 0 ≤ outW s.store then (2, outW s.store, 7) else if 0 ≤ outW s.tape then (3, outW s.tape, 7) else if 0 ≤ outW s.printed then (4, outW s.printed, 7)
     else if numsOk s then (if s.time % 16 = s.at_ % 16 then (0, 0, 0) else (6, 0, 2)) else (5, 0, 7))
  else (1, 0, 3)
theorem outW_any (a : Option Addr) (cap : Nat) (xs : List Int) (hlen : Len xs.length) (w : World) (hx : IntsAt w a xs) :
    Calls Try.prog 52 #[.int .i64 0, .int .i64 16777215, .slice a xs.length cap] w (Ret w (.int .i64 (outW xs))) := outside_any 0 16777215 a cap xs hlen w hx
theorem outW_cases (xs : List Int) : outW xs = -1 ∨ 0 ≤ outW xs := by
  rcases outOf_cases 0 16777215 xs with ⟨h, _⟩ | ⟨h, _⟩
  · exact .inl h
  · exact .inr h

set_option maxRecDepth 100000 in
set_option maxHeartbeats 2000000 in
theorem check_long (q : Sl) (s : St) (h : ¬ lensOk s) (w : World) : Calls Try.prog 26 #[stVal q s] w (Ret w (val3 1 0 3)) := by
  unfold lensOk at h
  by_cases h1 : s.store.length = 128
  · by_cases h2 : s.tape.length ≤ 200
    · have h3 : (200 : Int) < (s.printed.length : Int) := by omega
      have h2' : ¬ (200 : Int) < (s.tape.length : Int) := by omega
      clear h h2
      go_enter Try.func26, Try.ntmps26
      go_wp2
      go_ret3
      exact ⟨rfl, by (repeat (first | assumption | exact Below.refl _ _ | refine b_alloc ?_ _ | refine Below.drew ?_ | refine b_drewN ?_ _ | refine Below.setCell ?_ (by first | omega | (simp; done) | (simp; omega)) _ | refine b_call (by assumption) ?_))⟩
    · have h2' : (200 : Int) < (s.tape.length : Int) := by omega
      clear h h2
      go_enter Try.func26, Try.ntmps26
      go_wp2
      go_ret3
      exact ⟨rfl, by (repeat (first | assumption | exact Below.refl _ _ | refine b_alloc ?_ _ | refine Below.drew ?_ | refine b_drewN ?_ _ | refine Below.setCell ?_ (by first | omega | (simp; done) | (simp; omega)) _ | refine b_call (by assumption) ?_))⟩
  · have h1' : ((s.store.length : Int) != 128) = true := by simp; omega
    clear h
    go_enter Try.func26, Try.ntmps26
    go_wp2
    go_ret3
    exact ⟨rfl, by (repeat (first | assumption | exact Below.refl _ _ | refine b_alloc ?_ _ | refine Below.drew ?_ | refine b_drewN ?_ _ | refine Below.setCell ?_ (by first | omega | (simp; done) | (simp; omega)) _ | refine b_call (by assumption) ?_))⟩

set_option maxRecDepth 100000 in
set_option maxHeartbeats 4000000 in
theorem check_word0 (q : Sl) (s : St) (hl : lensOk s) (h1 : 0 ≤ outW s.store) (w : World) (hx : StAt w q s) : Calls Try.prog 26 #[stVal q s] w (Ret w (val3 2 (outW s.store) 7)) := by
  unfold lensOk at hl
  obtain ⟨l1, l2, l3⟩ := hl
  have B0 := hid (Blk.new w (stCells q s) 37)
  have HB := hid (b_alloc (Below.refl w.heap.size w) (.cells (stCells q s) 37))
  have HX := hid hx
  have H1 := hid (fun W a c g => outW_any a c s.store (by unfold Len; omega) W g)
  have H2 := hid (fun W a c g => outW_any a c s.tape (by unfold Len; omega) W g)
  have H3 := hid (fun W a c g => outW_any a c s.printed (by unfold Len; omega) W g)
  have l2' : ¬ (200 : Int) < (s.tape.length : Int) := by omega
  have l3' : ¬ (200 : Int) < (s.printed.length : Int) := by omega
  generalize outW s.store = p1 at *
  generalize outW s.tape = p2 at *
  generalize outW s.printed = p3 at *
  rw [l1] at H1
  clear hx l2 l3
  have B1 := hid (Blk.new (w.alloc (.cells (stCells q s) 37)) #[.slice q.a 128 q.ca, .slice q.b s.tape.length q.cb, .slice q.c s.printed.length q.cc] 35)
  have L1 := hid l1
  go_enter Try.func26, Try.ntmps26
  go_wp2
  have hB2 := b_alloc HB.out (.cells #[.slice q.a 128 q.ca, .slice q.b s.tape.length q.cb, .slice q.c s.printed.length q.cc] 35)
  have B2 := hid (B0.out.alloc (.cells #[.slice q.a 128 q.ca, .slice q.b s.tape.length q.cb, .slice q.c s.printed.length q.cc] 35))
  have hb1 := B1.out
  rw [World.size_alloc] at hb1
  have HX2 := hid (HX.out.below hB2)
  have HB2 := hid hB2
  have B3 := hid hb1
  clear hb1 hB2
  generalize (w.alloc (.cells (stCells q s) 37)).alloc (.cells #[.slice q.a 128 q.ca, .slice q.b s.tape.length q.cb, .slice q.c s.printed.length q.cc] 35) = W0 at *
  go_loopw [32] (fun iv wr => ∃ k : Nat, k ≤ 0 ∧ iv = .int .i64 (k : Int) ∧ Below W0.heap.size W0 wr) (fun iv _ => 3 - (intOf iv).toNat)
  case atStart => exact ⟨0, by omega, rfl, Below.refl _ _⟩
  case round =>
    obtain ⟨k, hk, rfl, hbr⟩ := hrel
    have HBR := hid hbr
    clear hbr
    rcases (by omega : k = 0) with rfl
    · have c0 := (B3.out.call HBR.out).cell 0 _ rfl
      simp only [List.getElem_toArray, List.getElem_cons_succ, List.getElem_cons_zero] at c0
      go_wp2_with (go_at_call 52; refine (H1.out _ _ _ (HX2.out.1.below HBR.out)).mono ?_; rintro e w1 ⟨rfl, hb1⟩; have HB1 := hid (b_call hb1 HBR.out); clear hb1)
      go_ret3
      exact ⟨rfl, HB2.out.trans (HB1.out.mono HB2.out.size)⟩

set_option maxRecDepth 100000 in
set_option maxHeartbeats 4000000 in
theorem check_word1 (q : Sl) (s : St) (hl : lensOk s) (h1 : outW s.store = -1) (h2 : 0 ≤ outW s.tape) (w : World) (hx : StAt w q s) : Calls Try.prog 26 #[stVal q s] w (Ret w (val3 3 (outW s.tape) 7)) := by
  unfold lensOk at hl
  obtain ⟨l1, l2, l3⟩ := hl
  have B0 := hid (Blk.new w (stCells q s) 37)
  have HB := hid (b_alloc (Below.refl w.heap.size w) (.cells (stCells q s) 37))
  have HX := hid hx
  have H1 := hid (fun W a c g => outW_any a c s.store (by unfold Len; omega) W g)
  have H2 := hid (fun W a c g => outW_any a c s.tape (by unfold Len; omega) W g)
  have H3 := hid (fun W a c g => outW_any a c s.printed (by unfold Len; omega) W g)
  have l2' : ¬ (200 : Int) < (s.tape.length : Int) := by omega
  have l3' : ¬ (200 : Int) < (s.printed.length : Int) := by omega
  rw [h1] at H1
  clear h1
  generalize outW s.tape = p2 at *
  generalize outW s.printed = p3 at *
  rw [l1] at H1
  clear hx l2 l3
  have B1 := hid (Blk.new (w.alloc (.cells (stCells q s) 37)) #[.slice q.a 128 q.ca, .slice q.b s.tape.length q.cb, .slice q.c s.printed.length q.cc] 35)
  have L1 := hid l1
  go_enter Try.func26, Try.ntmps26
  go_wp2
  have hB2 := b_alloc HB.out (.cells #[.slice q.a 128 q.ca, .slice q.b s.tape.length q.cb, .slice q.c s.printed.length q.cc] 35)
  have B2 := hid (B0.out.alloc (.cells #[.slice q.a 128 q.ca, .slice q.b s.tape.length q.cb, .slice q.c s.printed.length q.cc] 35))
  have hb1 := B1.out
  rw [World.size_alloc] at hb1
  have HX2 := hid (HX.out.below hB2)
  have HB2 := hid hB2
  have B3 := hid hb1
  clear hb1 hB2
  generalize (w.alloc (.cells (stCells q s) 37)).alloc (.cells #[.slice q.a 128 q.ca, .slice q.b s.tape.length q.cb, .slice q.c s.printed.length q.cc] 35) = W0 at *
  go_loopw [32] (fun iv wr => ∃ k : Nat, k ≤ 1 ∧ iv = .int .i64 (k : Int) ∧ Below W0.heap.size W0 wr) (fun iv _ => 3 - (intOf iv).toNat)
  case atStart => exact ⟨0, by omega, rfl, Below.refl _ _⟩
  case round =>
    obtain ⟨k, hk, rfl, hbr⟩ := hrel
    have HBR := hid hbr
    clear hbr
    rcases (by omega : k = 0 ∨ k = 1) with rfl | rfl
    · have c0 := (B3.out.call HBR.out).cell 0 _ rfl
      simp only [List.getElem_toArray, List.getElem_cons_succ, List.getElem_cons_zero] at c0
      go_wp2_with (go_at_call 52; refine (H1.out _ _ _ (HX2.out.1.below HBR.out)).mono ?_; rintro e w1 ⟨rfl, hb1⟩; have HB1 := hid (b_call hb1 HBR.out); clear hb1)
      go_roundw
      case rel => exact ⟨1, by omega, rfl, HB1.out⟩
      case measure => simp [intOf]
    · have c0 := (B3.out.call HBR.out).cell 1 _ rfl
      simp only [List.getElem_toArray, List.getElem_cons_succ, List.getElem_cons_zero] at c0
      go_wp2_with (go_at_call 52; refine (H2.out _ _ _ (HX2.out.2.1.below HBR.out)).mono ?_; rintro e w1 ⟨rfl, hb1⟩; have HB1 := hid (b_call hb1 HBR.out); clear hb1)
      go_ret3
      exact ⟨rfl, HB2.out.trans (HB1.out.mono HB2.out.size)⟩

set_option maxRecDepth 100000 in
set_option maxHeartbeats 4000000 in
theorem check_word2 (q : Sl) (s : St) (hl : lensOk s) (h1 : outW s.store = -1) (h2 : outW s.tape = -1) (h3 : 0 ≤ outW s.printed) (w : World) (hx : StAt w q s) : Calls Try.prog 26 #[stVal q s] w (Ret w (val3 4 (outW s.printed) 7)) := by
  unfold lensOk at hl
  obtain ⟨l1, l2, l3⟩ := hl
  have B0 := hid (Blk.new w (stCells q s) 37)
  have HB := hid (b_alloc (Below.refl w.heap.size w) (.cells (stCells q s) 37))
  have HX := hid hx
  have H1 := hid (fun W a c g => outW_any a c s.store (by unfold Len; omega) W g)
  have H2 := hid (fun W a c g => outW_any a c s.tape (by unfold Len; omega) W g)
  have H3 := hid (fun W a c g => outW_any a c s.printed (by unfold Len; omega) W g)
  have l2' : ¬ (200 : Int) < (s.tape.length : Int) := by omega
  have l3' : ¬ (200 : Int) < (s.printed.length : Int) := by omega
  rw [h1] at H1
  rw [h2] at H2
  clear h1 h2
  generalize outW s.printed = p3 at *
  rw [l1] at H1
  clear hx l2 l3
  have B1 := hid (Blk.new (w.alloc (.cells (stCells q s) 37)) #[.slice q.a 128 q.ca, .slice q.b s.tape.length q.cb, .slice q.c s.printed.length q.cc] 35)
  have L1 := hid l1
  go_enter Try.func26, Try.ntmps26
  go_wp2
  have hB2 := b_alloc HB.out (.cells #[.slice q.a 128 q.ca, .slice q.b s.tape.length q.cb, .slice q.c s.printed.length q.cc] 35)
  have B2 := hid (B0.out.alloc (.cells #[.slice q.a 128 q.ca, .slice q.b s.tape.length q.cb, .slice q.c s.printed.length q.cc] 35))
  have hb1 := B1.out
  rw [World.size_alloc] at hb1
  have HX2 := hid (HX.out.below hB2)
  have HB2 := hid hB2
  have B3 := hid hb1
  clear hb1 hB2
  generalize (w.alloc (.cells (stCells q s) 37)).alloc (.cells #[.slice q.a 128 q.ca, .slice q.b s.tape.length q.cb, .slice q.c s.printed.length q.cc] 35) = W0 at *
  go_loopw [32] (fun iv wr => ∃ k : Nat, k ≤ 2 ∧ iv = .int .i64 (k : Int) ∧ Below W0.heap.size W0 wr) (fun iv _ => 3 - (intOf iv).toNat)
  case atStart => exact ⟨0, by omega, rfl, Below.refl _ _⟩
  case round =>
    obtain ⟨k, hk, rfl, hbr⟩ := hrel
    have HBR := hid hbr
    clear hbr
    rcases (by omega : k = 0 ∨ k = 1 ∨ k = 2) with rfl | rfl | rfl
    · have c0 := (B3.out.call HBR.out).cell 0 _ rfl
      simp only [List.getElem_toArray, List.getElem_cons_succ, List.getElem_cons_zero] at c0
      go_wp2_with (go_at_call 52; refine (H1.out _ _ _ (HX2.out.1.below HBR.out)).mono ?_; rintro e w1 ⟨rfl, hb1⟩; have HB1 := hid (b_call hb1 HBR.out); clear hb1)
      go_roundw
      case rel => exact ⟨1, by omega, rfl, HB1.out⟩
      case measure => simp [intOf]
    · have c0 := (B3.out.call HBR.out).cell 1 _ rfl
      simp only [List.getElem_toArray, List.getElem_cons_succ, List.getElem_cons_zero] at c0
      go_wp2_with (go_at_call 52; refine (H2.out _ _ _ (HX2.out.2.1.below HBR.out)).mono ?_; rintro e w1 ⟨rfl, hb1⟩; have HB1 := hid (b_call hb1 HBR.out); clear hb1)
      go_roundw
      case rel => exact ⟨2, by omega, rfl, HB1.out⟩
      case measure => simp [intOf]
    · have c0 := (B3.out.call HBR.out).cell 2 _ rfl
      simp only [List.getElem_toArray, List.getElem_cons_succ, List.getElem_cons_zero] at c0
      go_wp2_with (go_at_call 52; refine (H3.out _ _ _ (HX2.out.2.2.below HBR.out)).mono ?_; rintro e w1 ⟨rfl, hb1⟩; have HB1 := hid (b_call hb1 HBR.out); clear hb1)
      go_ret3
      exact ⟨rfl, HB2.out.trans (HB1.out.mono HB2.out.size)⟩

set_option maxRecDepth 100000 in
set_option maxHeartbeats 4000000 in
theorem check_nums (q : Sl) (s : St) (hl : lensOk s) (h1 : outW s.store = -1) (h2 : outW s.tape = -1) (h3 : outW s.printed = -1) (hn : ¬ numsOk s) (w : World) (hx : StAt w q s) : Calls Try.prog 26 #[stVal q s] w (Ret w (val3 5 0 7)) := by
  unfold lensOk at hl
  obtain ⟨l1, l2, l3⟩ := hl
  have B0 := hid (Blk.new w (stCells q s) 37)
  have HB := hid (b_alloc (Below.refl w.heap.size w) (.cells (stCells q s) 37))
  have HX := hid hx
  have H1 := hid (fun W a c g => outW_any a c s.store (by unfold Len; omega) W g)
  have H2 := hid (fun W a c g => outW_any a c s.tape (by unfold Len; omega) W g)
  have H3 := hid (fun W a c g => outW_any a c s.printed (by unfold Len; omega) W g)
  have l2' : ¬ (200 : Int) < (s.tape.length : Int) := by omega
  have l3' : ¬ (200 : Int) < (s.printed.length : Int) := by omega
  rw [h1] at H1
  rw [h2] at H2
  rw [h3] at H3
  clear h1 h2 h3
  rw [l1] at H1
  have HN := hid hn
  clear hx l2 l3 hn
  have B1 := hid (Blk.new (w.alloc (.cells (stCells q s) 37)) #[.slice q.a 128 q.ca, .slice q.b s.tape.length q.cb, .slice q.c s.printed.length q.cc] 35)
  have L1 := hid l1
  go_enter Try.func26, Try.ntmps26
  go_wp2
  have hB2 := b_alloc HB.out (.cells #[.slice q.a 128 q.ca, .slice q.b s.tape.length q.cb, .slice q.c s.printed.length q.cc] 35)
  have B2 := hid (B0.out.alloc (.cells #[.slice q.a 128 q.ca, .slice q.b s.tape.length q.cb, .slice q.c s.printed.length q.cc] 35))
  have hb1 := B1.out
  rw [World.size_alloc] at hb1
  have HX2 := hid (HX.out.below hB2)
  have HB2 := hid hB2
  have B3 := hid hb1
  clear hb1 hB2
  generalize (w.alloc (.cells (stCells q s) 37)).alloc (.cells #[.slice q.a 128 q.ca, .slice q.b s.tape.length q.cb, .slice q.c s.printed.length q.cc] 35) = W0 at *
  go_loopw [32] (fun iv wr => ∃ k : Nat, k ≤ 3 ∧ iv = .int .i64 (k : Int) ∧ Below W0.heap.size W0 wr) (fun iv _ => 3 - (intOf iv).toNat)
  case atStart => exact ⟨0, by omega, rfl, Below.refl _ _⟩
  case round =>
    obtain ⟨k, hk, rfl, hbr⟩ := hrel
    have HBR := hid hbr
    clear hbr
    rcases (by omega : k = 0 ∨ k = 1 ∨ k = 2 ∨ k = 3) with rfl | rfl | rfl | rfl
    · have c0 := (B3.out.call HBR.out).cell 0 _ rfl
      simp only [List.getElem_toArray, List.getElem_cons_succ, List.getElem_cons_zero] at c0
      go_wp2_with (go_at_call 52; refine (H1.out _ _ _ (HX2.out.1.below HBR.out)).mono ?_; rintro e w1 ⟨rfl, hb1⟩; have HB1 := hid (b_call hb1 HBR.out); clear hb1)
      go_roundw
      case rel => exact ⟨1, by omega, rfl, HB1.out⟩
      case measure => simp [intOf]
    · have c0 := (B3.out.call HBR.out).cell 1 _ rfl
      simp only [List.getElem_toArray, List.getElem_cons_succ, List.getElem_cons_zero] at c0
      go_wp2_with (go_at_call 52; refine (H2.out _ _ _ (HX2.out.2.1.below HBR.out)).mono ?_; rintro e w1 ⟨rfl, hb1⟩; have HB1 := hid (b_call hb1 HBR.out); clear hb1)
      go_roundw
      case rel => exact ⟨2, by omega, rfl, HB1.out⟩
      case measure => simp [intOf]
    · have c0 := (B3.out.call HBR.out).cell 2 _ rfl
      simp only [List.getElem_toArray, List.getElem_cons_succ, List.getElem_cons_zero] at c0
      go_wp2_with (go_at_call 52; refine (H3.out _ _ _ (HX2.out.2.2.below HBR.out)).mono ?_; rintro e w1 ⟨rfl, hb1⟩; have HB1 := hid (b_call hb1 HBR.out); clear hb1)
      go_roundw
      case rel => exact ⟨3, by omega, rfl, HB1.out⟩
      case measure => simp [intOf]
    · have B4 := hid (B2.out.call HBR.out)
      obtain ⟨⟨c0, c1, c2, c3⟩, c4, c5, c6, c7⟩ := stBlk B4.out
      rw [L1.out] at c0
      go_wp2_with (go_at_call 53; refine (show Calls _ _ _ _ (Ret _ (.bool false)) from by have := numbersStated_any q s wr; rw [decide_eq_false HN.out, stVal, stCells, L1.out] at this; exact this).mono ?_; rintro e w1 ⟨rfl, hb1⟩; have HB1 := hid (b_call hb1 HBR.out); clear hb1)
      go_ret3
      exact ⟨rfl, HB2.out.trans (HB1.out.mono HB2.out.size)⟩

set_option maxRecDepth 100000 in
set_option maxHeartbeats 4000000 in
theorem check_place (q : Sl) (s : St) (hl : lensOk s) (h1 : outW s.store = -1) (h2 : outW s.tape = -1) (h3 : outW s.printed = -1) (hn : numsOk s) (hp : ¬ s.time % 16 = s.at_ % 16) (w : World) (hx : StAt w q s) : Calls Try.prog 26 #[stVal q s] w (Ret w (val3 6 0 2)) := by
  unfold lensOk at hl
  obtain ⟨l1, l2, l3⟩ := hl
  have B0 := hid (Blk.new w (stCells q s) 37)
  have HB := hid (b_alloc (Below.refl w.heap.size w) (.cells (stCells q s) 37))
  have HX := hid hx
  have H1 := hid (fun W a c g => outW_any a c s.store (by unfold Len; omega) W g)
  have H2 := hid (fun W a c g => outW_any a c s.tape (by unfold Len; omega) W g)
  have H3 := hid (fun W a c g => outW_any a c s.printed (by unfold Len; omega) W g)
  have l2' : ¬ (200 : Int) < (s.tape.length : Int) := by omega
  have l3' : ¬ (200 : Int) < (s.printed.length : Int) := by omega
  rw [h1] at H1
  rw [h2] at H2
  rw [h3] at H3
  clear h1 h2 h3
  rw [l1] at H1
  have HN := hid hn
  have hp2 : (s.time % 16 == s.at_ % 16) = false := by simpa using hp
  have hp3 : (s.time % 16 != s.at_ % 16) = true := by simpa using hp
  clear hx l2 l3 hn
  have B1 := hid (Blk.new (w.alloc (.cells (stCells q s) 37)) #[.slice q.a 128 q.ca, .slice q.b s.tape.length q.cb, .slice q.c s.printed.length q.cc] 35)
  have L1 := hid l1
  go_enter Try.func26, Try.ntmps26
  go_wp2
  have hB2 := b_alloc HB.out (.cells #[.slice q.a 128 q.ca, .slice q.b s.tape.length q.cb, .slice q.c s.printed.length q.cc] 35)
  have B2 := hid (B0.out.alloc (.cells #[.slice q.a 128 q.ca, .slice q.b s.tape.length q.cb, .slice q.c s.printed.length q.cc] 35))
  have hb1 := B1.out
  rw [World.size_alloc] at hb1
  have HX2 := hid (HX.out.below hB2)
  have HB2 := hid hB2
  have B3 := hid hb1
  clear hb1 hB2
  generalize (w.alloc (.cells (stCells q s) 37)).alloc (.cells #[.slice q.a 128 q.ca, .slice q.b s.tape.length q.cb, .slice q.c s.printed.length q.cc] 35) = W0 at *
  go_loopw [32] (fun iv wr => ∃ k : Nat, k ≤ 3 ∧ iv = .int .i64 (k : Int) ∧ Below W0.heap.size W0 wr) (fun iv _ => 3 - (intOf iv).toNat)
  case atStart => exact ⟨0, by omega, rfl, Below.refl _ _⟩
  case round =>
    obtain ⟨k, hk, rfl, hbr⟩ := hrel
    have HBR := hid hbr
    clear hbr
    rcases (by omega : k = 0 ∨ k = 1 ∨ k = 2 ∨ k = 3) with rfl | rfl | rfl | rfl
    · have c0 := (B3.out.call HBR.out).cell 0 _ rfl
      simp only [List.getElem_toArray, List.getElem_cons_succ, List.getElem_cons_zero] at c0
      go_wp2_with (go_at_call 52; refine (H1.out _ _ _ (HX2.out.1.below HBR.out)).mono ?_; rintro e w1 ⟨rfl, hb1⟩; have HB1 := hid (b_call hb1 HBR.out); clear hb1)
      go_roundw
      case rel => exact ⟨1, by omega, rfl, HB1.out⟩
      case measure => simp [intOf]
    · have c0 := (B3.out.call HBR.out).cell 1 _ rfl
      simp only [List.getElem_toArray, List.getElem_cons_succ, List.getElem_cons_zero] at c0
      go_wp2_with (go_at_call 52; refine (H2.out _ _ _ (HX2.out.2.1.below HBR.out)).mono ?_; rintro e w1 ⟨rfl, hb1⟩; have HB1 := hid (b_call hb1 HBR.out); clear hb1)
      go_roundw
      case rel => exact ⟨2, by omega, rfl, HB1.out⟩
      case measure => simp [intOf]
    · have c0 := (B3.out.call HBR.out).cell 2 _ rfl
      simp only [List.getElem_toArray, List.getElem_cons_succ, List.getElem_cons_zero] at c0
      go_wp2_with (go_at_call 52; refine (H3.out _ _ _ (HX2.out.2.2.below HBR.out)).mono ?_; rintro e w1 ⟨rfl, hb1⟩; have HB1 := hid (b_call hb1 HBR.out); clear hb1)
      go_roundw
      case rel => exact ⟨3, by omega, rfl, HB1.out⟩
      case measure => simp [intOf]
    · have B4 := hid (B2.out.call HBR.out)
      obtain ⟨⟨c0, c1, c2, c3⟩, c4, c5, c6, c7⟩ := stBlk B4.out
      rw [L1.out] at c0
      obtain ⟨_, n2, n3, _⟩ := HN.out
      go_wp2_with (go_at_call 53; refine (show Calls _ _ _ _ (Ret _ (.bool true)) from by have := numbersStated_any q s wr; rw [decide_eq_true HN.out, stVal, stCells, L1.out] at this; exact this).mono ?_; rintro e w1 ⟨rfl, hb1⟩; have HB1 := hid (b_call hb1 HBR.out); clear c0 c1 c2 c3 c4 c5 c6 c7; obtain ⟨_, c4, c5, _, _⟩ := stBlk (B4.out.call hb1); clear hb1)
      go_quiet ((go_at_call 54; exact Calls.quiet_of_same ((place_any _ (by omega) _).mono fun e w' h => ⟨h.1, h.2.symm⟩)))
      skip
      go_wp2
      go_ret3
      exact ⟨rfl, by have hq := HB2.out.trans (HB1.out.mono HB2.out.size); (repeat (first | assumption | exact Below.refl _ _ | refine b_alloc ?_ _ | refine Below.drew ?_ | refine b_drewN ?_ _ | refine Below.setCell ?_ (by first | omega | (simp; done) | (simp; omega)) _ | refine b_call (by assumption) ?_))⟩

set_option maxRecDepth 100000 in
set_option maxHeartbeats 4000000 in
theorem check_ok (q : Sl) (s : St) (hl : lensOk s) (h1 : outW s.store = -1) (h2 : outW s.tape = -1) (h3 : outW s.printed = -1) (hn : numsOk s) (hp : s.time % 16 = s.at_ % 16) (w : World) (hx : StAt w q s) : Calls Try.prog 26 #[stVal q s] w (Ret w (val3 0 0 0)) := by
  unfold lensOk at hl
  obtain ⟨l1, l2, l3⟩ := hl
  have B0 := hid (Blk.new w (stCells q s) 37)
  have HB := hid (b_alloc (Below.refl w.heap.size w) (.cells (stCells q s) 37))
  have HX := hid hx
  have H1 := hid (fun W a c g => outW_any a c s.store (by unfold Len; omega) W g)
  have H2 := hid (fun W a c g => outW_any a c s.tape (by unfold Len; omega) W g)
  have H3 := hid (fun W a c g => outW_any a c s.printed (by unfold Len; omega) W g)
  have l2' : ¬ (200 : Int) < (s.tape.length : Int) := by omega
  have l3' : ¬ (200 : Int) < (s.printed.length : Int) := by omega
  rw [h1] at H1
  rw [h2] at H2
  rw [h3] at H3
  clear h1 h2 h3
  rw [l1] at H1
  have HN := hid hn
  have HP := hid hp
  clear hx l2 l3 hn hp
  have B1 := hid (Blk.new (w.alloc (.cells (stCells q s) 37)) #[.slice q.a 128 q.ca, .slice q.b s.tape.length q.cb, .slice q.c s.printed.length q.cc] 35)
  have L1 := hid l1
  go_enter Try.func26, Try.ntmps26
  go_wp2
  have hB2 := b_alloc HB.out (.cells #[.slice q.a 128 q.ca, .slice q.b s.tape.length q.cb, .slice q.c s.printed.length q.cc] 35)
  have B2 := hid (B0.out.alloc (.cells #[.slice q.a 128 q.ca, .slice q.b s.tape.length q.cb, .slice q.c s.printed.length q.cc] 35))
  have hb1 := B1.out
  rw [World.size_alloc] at hb1
  have HX2 := hid (HX.out.below hB2)
  have HB2 := hid hB2
  have B3 := hid hb1
  clear hb1 hB2
  generalize (w.alloc (.cells (stCells q s) 37)).alloc (.cells #[.slice q.a 128 q.ca, .slice q.b s.tape.length q.cb, .slice q.c s.printed.length q.cc] 35) = W0 at *
  go_loopw [32] (fun iv wr => ∃ k : Nat, k ≤ 3 ∧ iv = .int .i64 (k : Int) ∧ Below W0.heap.size W0 wr) (fun iv _ => 3 - (intOf iv).toNat)
  case atStart => exact ⟨0, by omega, rfl, Below.refl _ _⟩
  case round =>
    obtain ⟨k, hk, rfl, hbr⟩ := hrel
    have HBR := hid hbr
    clear hbr
    rcases (by omega : k = 0 ∨ k = 1 ∨ k = 2 ∨ k = 3) with rfl | rfl | rfl | rfl
    · have c0 := (B3.out.call HBR.out).cell 0 _ rfl
      simp only [List.getElem_toArray, List.getElem_cons_succ, List.getElem_cons_zero] at c0
      go_wp2_with (go_at_call 52; refine (H1.out _ _ _ (HX2.out.1.below HBR.out)).mono ?_; rintro e w1 ⟨rfl, hb1⟩; have HB1 := hid (b_call hb1 HBR.out); clear hb1)
      go_roundw
      case rel => exact ⟨1, by omega, rfl, HB1.out⟩
      case measure => simp [intOf]
    · have c0 := (B3.out.call HBR.out).cell 1 _ rfl
      simp only [List.getElem_toArray, List.getElem_cons_succ, List.getElem_cons_zero] at c0
      go_wp2_with (go_at_call 52; refine (H2.out _ _ _ (HX2.out.2.1.below HBR.out)).mono ?_; rintro e w1 ⟨rfl, hb1⟩; have HB1 := hid (b_call hb1 HBR.out); clear hb1)
      go_roundw
      case rel => exact ⟨2, by omega, rfl, HB1.out⟩
      case measure => simp [intOf]
    · have c0 := (B3.out.call HBR.out).cell 2 _ rfl
      simp only [List.getElem_toArray, List.getElem_cons_succ, List.getElem_cons_zero] at c0
      go_wp2_with (go_at_call 52; refine (H3.out _ _ _ (HX2.out.2.2.below HBR.out)).mono ?_; rintro e w1 ⟨rfl, hb1⟩; have HB1 := hid (b_call hb1 HBR.out); clear hb1)
      go_roundw
      case rel => exact ⟨3, by omega, rfl, HB1.out⟩
      case measure => simp [intOf]
    · have B4 := hid (B2.out.call HBR.out)
      obtain ⟨⟨c0, c1, c2, c3⟩, c4, c5, c6, c7⟩ := stBlk B4.out
      rw [L1.out] at c0
      obtain ⟨_, n2, n3, _⟩ := HN.out
      go_wp2_with (go_at_call 53; refine (show Calls _ _ _ _ (Ret _ (.bool true)) from by have := numbersStated_any q s wr; rw [decide_eq_true HN.out, stVal, stCells, L1.out] at this; exact this).mono ?_; rintro e w1 ⟨rfl, hb1⟩; have HB1 := hid (b_call hb1 HBR.out); clear c0 c1 c2 c3 c4 c5 c6 c7; obtain ⟨_, c4, c5, _, _⟩ := stBlk (B4.out.call hb1); clear hb1)
      go_quiet ((go_at_call 54; exact Calls.quiet_of_same ((place_any _ (by omega) _).mono fun e w' h => ⟨h.1, h.2.symm⟩)))
      have hp2 : (s.time % 16 == s.at_ % 16) = true := by simpa using HP.out
      have hp3 : (s.time % 16 != s.at_ % 16) = false := by simpa using HP.out
      go_wp2
      go_ret3
      exact ⟨rfl, by have hq := HB2.out.trans (HB1.out.mono HB2.out.size); (repeat (first | assumption | exact Below.refl _ _ | refine b_alloc ?_ _ | refine Below.drew ?_ | refine b_drewN ?_ _ | refine Below.setCell ?_ (by first | omega | (simp; done) | (simp; omega)) _ | refine b_call (by assumption) ?_))⟩

theorem Check_any (q : Sl) (s : St) (hl : StLen s) (w : World) (hx : StAt w q s) : Calls Try.prog 26 #[stVal q s] w (Ret w (val3 (chk s).1 (chk s).2.1 (chk s).2.2)) := by
  unfold chk
  by_cases h : lensOk s
  · rw [if_pos h]
    rcases outW_cases s.store with h1 | h1
    · rw [if_neg (by omega)]
      rcases outW_cases s.tape with h2 | h2
      · rw [if_neg (by omega)]
        rcases outW_cases s.printed with h3 | h3
        · rw [if_neg (by omega)]
          by_cases hn : numsOk s
          · rw [if_pos hn]
            by_cases hp : s.time % 16 = s.at_ % 16
            · rw [if_pos hp]; exact check_ok q s h h1 h2 h3 hn hp w hx
            · rw [if_neg hp]; exact check_place q s h h1 h2 h3 hn hp w hx
          · rw [if_neg hn]; exact check_nums q s h h1 h2 h3 hn w hx
        · rw [if_pos h3]; exact check_word2 q s h h1 h2 h3 w hx
      · rw [if_pos h2]; exact check_word1 q s h h1 h2 w hx
    · rw [if_pos h1]; exact check_word0 q s h h1 w hx
  · rw [if_neg h]; exact check_long q s h w
end Go.Proofs.Ytbfhgcnfhjhgcaa
