/-
  OrderUndone: an addition undone, a word taken from itself, a word moved.
-/
import Derived.Test.YtbfhgcnfhjhgcaaBegMath
import Derived.Test.YtbfhgcnfhjhgcaaBegErr
import Derived.Test.YtbfhgcnfhjhgcaaLawB
import Derived.Test.YtbfhgcnfhjhgcaaRefStates
namespace Go.Proofs.Ytbfhgcnfhjhgcaa
open Go.RowKit
set_option linter.unusedVariables false
set_option linter.unusedSimpArgs false

theorem uS_len (x y z t a d w : Int) : (uS x y z t a d w).store.length = 128 := by kernel_rfl
theorem stLenU (x y z t a d w : Int) : StLen (uS x y z t a d w) := ⟨by rw [uS_len]; unfold Len; omega, by show Len 0; unfold Len; omega, by show Len 0; unfold Len; omega⟩
theorem written_u0 (w : World) : Calls Try.prog 37 #[.agg #[.int .i64 2, .int .i64 4, .int .i64 5, .int .i64 1]] w (Ret w (.int .i64 4260481)) := Written_any ⟨2, 4, 5, 1⟩ (by decide) w
theorem written_u1 (w : World) : Calls Try.prog 37 #[.agg #[.int .i64 3, .int .i64 4, .int .i64 5, .int .i64 2]] w (Ret w (.int .i64 6357634)) := Written_any ⟨3, 4, 5, 2⟩ (by decide) w
theorem written_u2 (w : World) : Calls Try.prog 37 #[.agg #[.int .i64 1, .int .i64 5, .int .i64 6, .int .i64 3]] w (Ret w (.int .i64 2179843)) := Written_any ⟨1, 5, 6, 3⟩ (by decide) w
theorem written_u3 (w : World) : Calls Try.prog 37 #[.agg #[.int .i64 3, .int .i64 4, .int .i64 4, .int .i64 7]] w (Ret w (.int .i64 6357511)) := Written_any ⟨3, 4, 4, 7⟩ (by decide) w
theorem ints8' (W : World) (x0 x1 x2 x3 x4 x5 x6 x7 : Int) (n : Nat) (h : n = W.heap.size) : IntsAt (W.alloc (.cells #[.int .i64 x0, .int .i64 x1, .int .i64 x2, .int .i64 x3, .int .i64 x4, .int .i64 x5, .int .i64 x6, .int .i64 x7] 3)) (some ⟨n, 0, none⟩) [x0, x1, x2, x3, x4, x5, x6, x7] := by
  subst h
  intro j hj
  refine ⟨W.heap.size, 0, rfl, ?_⟩
  rw [Nat.zero_add]
  refine (Cel.new W _ _ j _ ?_).1
  have hj' : j < 8 := hj
  match j, hj' with
  | 0, _ => rfl
  | 1, _ => rfl
  | 2, _ => rfl
  | 3, _ => rfl
  | 4, _ => rfl
  | 5, _ => rfl
  | 6, _ => rfl
  | 7, _ => rfl
/-- A state of OrderUndone, handed back. -/
def URet (x y z t a d y' : Int) (w : World) (e : Ending) (w' : World) : Prop := ∃ (pa pb pc : Option Addr) (ka kb kc : Nat), e = .returned (.tuple #[.agg #[.slice pa 128 ka, .slice pb 0 kb, .int .i64 0, .slice pc 0 kc, .int .i64 t, .int .i64 a, .int .i64 d, .int .i64 y'], .int .i64 0]) ∧ StAt w' ⟨pa, pb, pc, ka, kb, kc⟩ (uS x y z t a d y') ∧ Below w.heap.size w w'
theorem uBegin (a b : Int) (ha : Wd a) (hb : Wd b) (p : Option Addr) (c : Nat) (w : World) (hx : IntsAt w p [4260481, 6357634, 2179843, 6357511, a, b, 0, 0]) : Calls Try.prog 28 #[.slice p 8 c, .slice none 0 0, .int .i64 0] w (URet a b 0 0 0 0 0 w) := by
  have h := Begin_any p none c 0 [4260481, 6357634, 2179843, 6357511, a, b, 0, 0] [] 0 w hx (fun j hj => by simp at hj)
  have e := begErr_u a b
  rw [if_pos ⟨ha, hb⟩] at e
  unfold begOf at h
  rw [e, if_pos rfl, uS_beg] at h
  refine h.mono ?_
  rintro e w' ⟨⟨pa, pb, pc, ka, kb, kc⟩, rfl, hs, hb⟩
  exact ⟨pa, pb, pc, ka, kb, kc, rfl, hs, hb⟩
theorem uBegin_no (a b : Int) (h : ¬ (Wd a ∧ Wd b)) (p : Option Addr) (c : Nat) (w : World) (hx : IntsAt w p [4260481, 6357634, 2179843, 6357511, a, b, 0, 0]) : Calls Try.prog 28 #[.slice p 8 c, .slice none 0 0, .int .i64 0] w (RetS w st0 7) := by
  have h' := Begin_any p none c 0 [4260481, 6357634, 2179843, 6357511, a, b, 0, 0] [] 0 w hx (fun j hj => by simp at hj)
  have e := begErr_u a b
  rw [if_neg h] at e
  unfold begOf at h'
  rw [e, if_neg (by decide)] at h'
  exact h'
theorem uRun2 (a b : Int) (ha : Wd a) (hb : Wd b) (pa pb pc : Option Addr) (ka kb kc : Nat) (w : World) (hx : StAt w ⟨pa, pb, pc, ka, kb, kc⟩ (uS a b 0 0 0 0 0)) : Calls Try.prog 31 #[.agg #[.slice pa 128 ka, .slice pb 0 kb, .int .i64 0, .slice pc 0 kc, .int .i64 0, .int .i64 0, .int .i64 0, .int .i64 0], .int .i64 2] w (URet a b 0 34 2 2 0 w) := by
  have h := Run_any ⟨pa, pb, pc, ka, kb, kc⟩ (uS a b 0 0 0 0 0) (stLenU _ _ _ _ _ _ _) 2 w hx
  have e := ask_of (uS_ok ha hb) (n := 2) (by decide)
  unfold runOf at h
  rw [e, if_pos rfl, show (2 : Int).toNat = 2 from rfl, uS_run2 a b hb] at h
  refine h.mono ?_
  rintro e w' ⟨⟨pa, pb, pc, ka, kb, kc⟩, rfl, hs, hb⟩
  exact ⟨pa, pb, pc, ka, kb, kc, rfl, hs, hb⟩
theorem uRun9 (a b : Int) (ha : Wd a) (hb : Wd b) (pa pb pc : Option Addr) (ka kb kc : Nat) (w : World) (hx : StAt w ⟨pa, pb, pc, ka, kb, kc⟩ (uS a b 0 0 0 0 0)) : Calls Try.prog 31 #[.agg #[.slice pa 128 ka, .slice pb 0 kb, .int .i64 0, .slice pc 0 kc, .int .i64 0, .int .i64 0, .int .i64 0, .int .i64 0], .int .i64 9] w (URet 0 b b 71 7 4 1 w) := by
  have h := Run_any ⟨pa, pb, pc, ka, kb, kc⟩ (uS a b 0 0 0 0 0) (stLenU _ _ _ _ _ _ _) 9 w hx
  have e := ask_of (uS_ok ha hb) (n := 9) (by decide)
  unfold runOf at h
  rw [e, if_pos rfl, show (9 : Int).toNat = 9 from rfl, uS_run9 a b hb] at h
  refine h.mono ?_
  rintro e w' ⟨⟨pa, pb, pc, ka, kb, kc⟩, rfl, hs, hb⟩
  exact ⟨pa, pb, pc, ka, kb, kc, rfl, hs, hb⟩
theorem stU_cells {W : World} {pa pb pc : Option Addr} {ka kb kc : Nat} {x y z t a d v : Int} (h : StAt W ⟨pa, pb, pc, ka, kb, kc⟩ (uS x y z t a d v)) : ∃ bs os, pa = some ⟨bs, os, none⟩ ∧ W.cell? ⟨bs, os + 4, none⟩ = some (.int .i64 x) ∧ W.cell? ⟨bs, os + 5, none⟩ = some (.int .i64 y) ∧ W.cell? ⟨bs, os + 6, none⟩ = some (.int .i64 z) := by
  obtain ⟨b, o, e, hc⟩ := ints_addr' (show IntsAt W pa (uS x y z t a d v).store from h.1) (by rw [uS_len]; decide)
  exact ⟨b, o, e, hc 4 (by rw [uS_len]; decide), hc 5 (by rw [uS_len]; decide), hc 6 (by rw [uS_len]; decide)⟩
theorem uInts (a b : Int) (p1 p2 : Option Addr) (k1 k2 : Nat) (t at_ d v t' at' d' v' : Int) (w : World) (h1 : IntsAt w p1 (uS a b 0 t at_ d v).store) (h2 : IntsAt w p2 (uS a b 0 t' at' d' v').store) : Calls Try.prog 38 #[.slice p1 128 k1, .slice p2 128 k2] w (Ret w (.bool true)) := by
  have h := Ints_same p1 p2 k1 k2 (uS a b 0 t at_ d v).store (by rw [uS_len]; unfold Len; omega) w h1 h2
  rwa [uS_len] at h
set_option maxRecDepth 100000 in
set_option maxHeartbeats 16000000 in
theorem undone_any (hA : AwakeTrue) (w : World) (a b : Int) : Calls Try.prog 14 #[.int .i64 a, .int .i64 b] w (Ret w (.bool true)) := by
  have HA := hid hA
  have M0 := hid trivial
  have WA := hid (fun W => Word_any a W)
  have WB := hid (fun W => Word_any b W)
  clear hA
  by_cases h : Wd a ∧ Wd b
  · obtain ⟨ha, hb⟩ := h
    have HBG := hid (fun p c W h => uBegin a b ha hb p c W h)
    have HR2 := hid (fun pa pb pc ka kb kc W h => uRun2 a b ha hb pa pb pc ka kb kc W h)
    have HR9 := hid (fun pa pb pc ka kb kc W h => uRun9 a b ha hb pa pb pc ka kb kc W h)
    go_enter Try.func14, Try.ntmps14
    go_wp2_with (first
      | (have m := M0; go_at_call 37; refine (written_u0 _).mono ?_; rintro e w1 ⟨rfl, hb1⟩; have HB1 := hid hb1; clear hb1 m M0; have M1 := hid trivial)
      | (have m := M1; go_at_call 37; refine (written_u1 _).mono ?_; rintro e w2 ⟨rfl, hb2⟩; have HB2 := hid (b_call hb2 HB1.out); clear hb2 m M1; have M2 := hid trivial)
      | (have m := M2; go_at_call 37; refine (written_u2 _).mono ?_; rintro e w3 ⟨rfl, hb3⟩; have HB3 := hid (b_call hb3 HB2.out); clear hb3 m M2; have M3 := hid trivial)
      | (have m := M3; go_at_call 37; refine (written_u3 _).mono ?_; rintro e w4 ⟨rfl, hb4⟩; have HB4 := hid (b_call hb4 HB3.out); clear hb4 m M3; have M4 := hid trivial)
      | (have m := M4; go_at_call 28; refine (HBG.out _ _ _ (ints8' _ _ _ _ _ _ _ _ _ _ (by simp))).mono ?_; rintro e w5 ⟨pa, pb, pc, ka, kb, kc, rfl, hs5, hb5⟩; have HB5 := hid (b_call hb5 (b_alloc HB4.out _)); have HS5 := hid hs5; have S5 := hid (Blk.new w5 #[.slice pa 128 ka, .slice pb 0 kb, .int .i64 0, .slice pc 0 kc, .int .i64 0, .int .i64 0, .int .i64 0, .int .i64 0] 37); obtain ⟨⟨x0, x1, x2, x3⟩, x4, x5, x6, x7⟩ := stBlk S5.out; clear hb5 hs5 m M4; have M5 := hid trivial)
      | (have m := M5; go_at_call 31; refine (HR2.out _ _ _ _ _ _ _ (HS5.out.below (by have hq := Below.refl w5.heap.size w5; (repeat (first | assumption | exact Below.refl _ _ | refine b_alloc ?_ _ | refine Below.drew ?_ | refine b_drewN ?_ _ | refine Below.setCell ?_ (by first | omega | (simp; done) | (simp; omega)) _ | refine b_call (by assumption) ?_))))).mono ?_; rintro e w6 ⟨pa', pb', pc', ka', kb', kc', rfl, hs6, hb6⟩; have HB6 := hid (show Below w.heap.size w w6 from b_call hb6 (by have hq := HB5.out; (repeat (first | assumption | exact Below.refl _ _ | refine b_alloc ?_ _ | refine Below.drew ?_ | refine b_drewN ?_ _ | refine Below.setCell ?_ (by first | omega | (simp; done) | (simp; omega)) _ | refine b_call (by assumption) ?_)))); have HS6 := hid hs6; have HW6 := hid (show Below w5.heap.size w5 w6 from b_call hb6 (by have hq := Below.refl w5.heap.size w5; (repeat (first | assumption | exact Below.refl _ _ | refine b_alloc ?_ _ | refine Below.drew ?_ | refine b_drewN ?_ _ | refine Below.setCell ?_ (by first | omega | (simp; done) | (simp; omega)) _ | refine b_call (by assumption) ?_)))); have T6 := hid (Blk.new w6 #[.slice pa' 128 ka', .slice pb' 0 kb', .int .i64 0, .slice pc' 0 kc', .int .i64 34, .int .i64 2, .int .i64 2, .int .i64 0] 37); have S6 := hid ((S5.out.call hb6).alloc (.cells #[.slice pa' 128 ka', .slice pb' 0 kb', .int .i64 0, .slice pc' 0 kc', .int .i64 34, .int .i64 2, .int .i64 2, .int .i64 0] 37)); clear x0 x1 x2 x3 x4 x5 x6 x7; obtain ⟨⟨x0, x1, x2, x3⟩, x4, x5, x6, x7⟩ := stBlk S6.out; clear hb6 hs6 m M5; have M6 := hid trivial)
      | (have m := M6; go_at_call 31; refine (HR9.out _ _ _ _ _ _ _ (HS5.out.below (by have hq := HW6.out; (repeat (first | assumption | exact Below.refl _ _ | refine b_alloc ?_ _ | refine Below.drew ?_ | refine b_drewN ?_ _ | refine Below.setCell ?_ (by first | omega | (simp; done) | (simp; omega)) _ | refine b_call (by assumption) ?_))))).mono ?_; rintro e w7 ⟨pa2, pb2, pc2, ka2, kb2, kc2, rfl, hs7, hb7⟩; have HB7 := hid (show Below w.heap.size w w7 from b_call hb7 (by have hq := HB6.out; (repeat (first | assumption | exact Below.refl _ _ | refine b_alloc ?_ _ | refine Below.drew ?_ | refine b_drewN ?_ _ | refine Below.setCell ?_ (by first | omega | (simp; done) | (simp; omega)) _ | refine b_call (by assumption) ?_)))); have HW7 := hid (show Below w6.heap.size w6 w7 from b_call hb7 (by have hq := Below.refl w6.heap.size w6; (repeat (first | assumption | exact Below.refl _ _ | refine b_alloc ?_ _ | refine Below.drew ?_ | refine b_drewN ?_ _ | refine Below.setCell ?_ (by first | omega | (simp; done) | (simp; omega)) _ | refine b_call (by assumption) ?_)))); obtain ⟨bs, os, rfl, d4, d5, d6⟩ := stU_cells hs7; have U7 := hid (Blk.new w7 #[.slice (some ⟨bs, os, none⟩) 128 ka2, .slice pb2 0 kb2, .int .i64 0, .slice pc2 0 kc2, .int .i64 71, .int .i64 7, .int .i64 4, .int .i64 1] 37); have T7 := hid ((T6.out.call hb7).alloc (.cells #[.slice (some ⟨bs, os, none⟩) 128 ka2, .slice pb2 0 kb2, .int .i64 0, .slice pc2 0 kc2, .int .i64 71, .int .i64 7, .int .i64 4, .int .i64 1] 37)); have S7 := hid ((S6.out.call hb7).alloc (.cells #[.slice (some ⟨bs, os, none⟩) 128 ka2, .slice pb2 0 kb2, .int .i64 0, .slice pc2 0 kc2, .int .i64 71, .int .i64 7, .int .i64 4, .int .i64 1] 37)); have D7 := hid (And.intro d4 (And.intro d5 d6)); clear x0 x1 x2 x3 x4 x5 x6 x7 d4 d5 d6; obtain ⟨⟨x0, x1, x2, x3⟩, x4, x5, x6, x7⟩ := stBlk S7.out; obtain ⟨⟨y0, y1, y2, y3⟩, y4, y5, y6, y7⟩ := stBlk T7.out; clear hb7 hs7 m M6; have M7 := hid trivial)
      | (have m := M7; go_at_call 38; refine (uInts a b _ _ _ _ _ _ _ _ _ _ _ _ _ (HS5.out.1.below (b_alloc (b_call HW7.out HW6.out) _)) (HS6.out.1.below (b_alloc HW7.out _))).mono ?_; rintro e w8 ⟨rfl, hb8⟩; have HB8 := hid (show Below w.heap.size w w8 from b_call hb8 (b_alloc HB7.out _)); have U8 := hid (U7.out.call hb8); have hw78 : Below w7.heap.size w7 w8 := b_call hb8 (b_alloc (Below.refl _ _) _); obtain ⟨d4, d5, d6⟩ := D7.out; replace d4 := cell_later hw78 d4; replace d5 := cell_later hw78 d5; replace d6 := cell_later hw78 d6; clear x0 x1 x2 x3 x4 x5 x6 x7 y0 y1 y2 y3 y4 y5 y6 y7; obtain ⟨⟨x0, x1, x2, x3⟩, x4, x5, x6, x7⟩ := stBlk U8.out; clear hb8 hw78 m M7)
      | (go_at_call 23; refine (HA.out _).mono ?_; rintro e w9 ⟨rfl, hb9⟩; have HB9 := hid (show Below w.heap.size w w9 from b_call hb9 HB8.out); clear hb9))
    go_ret
    exact ⟨rfl, HB9.out⟩
  · have HBN := hid (fun p c W hx => uBegin_no a b h p c W hx)
    by_cases ka : Wd a
    · have kb : ¬ Wd b := fun k => h ⟨ka, k⟩
      have wa := WA.out
      have wb := WB.out
      rw [decide_eq_true ka] at wa
      rw [decide_eq_false kb] at wb
      clear WA WB h ka kb
      have WA := hid wa
      have WB := hid wb
      clear wa wb
      go_enter Try.func14, Try.ntmps14
      go_wp2_with (first
        | (have m := M0; go_at_call 37; refine (written_u0 _).mono ?_; rintro e w1 ⟨rfl, hb1⟩; have HB1 := hid hb1; clear hb1 m M0; have M1 := hid trivial)
        | (have m := M1; go_at_call 37; refine (written_u1 _).mono ?_; rintro e w2 ⟨rfl, hb2⟩; have HB2 := hid (b_call hb2 HB1.out); clear hb2 m M1; have M2 := hid trivial)
        | (have m := M2; go_at_call 37; refine (written_u2 _).mono ?_; rintro e w3 ⟨rfl, hb3⟩; have HB3 := hid (b_call hb3 HB2.out); clear hb3 m M2; have M3 := hid trivial)
        | (have m := M3; go_at_call 37; refine (written_u3 _).mono ?_; rintro e w4 ⟨rfl, hb4⟩; have HB4 := hid (b_call hb4 HB3.out); clear hb4 m M3; have M4 := hid trivial)
        | (have m := M4; go_at_call 28; refine (HBN.out _ _ _ (ints8' _ _ _ _ _ _ _ _ _ _ (by simp))).mono ?_; rintro e w5 ⟨q5, rfl, hs5, hb5⟩; have HB5 := hid (b_call hb5 (b_alloc HB4.out _)); clear hb5 hs5 m M4; have M5 := hid trivial)
        | (have m := M5; go_at_call 39; refine (WA.out _).mono ?_; rintro e w' ⟨rfl, rfl⟩; clear m M5; have M6 := hid trivial)
        | (have m := M6; go_at_call 39; refine (WB.out _).mono ?_; rintro e w' ⟨rfl, rfl⟩; clear m M6)
        | (go_at_call 23; refine (HA.out _).mono ?_; rintro e w7 ⟨rfl, hb7⟩; have HB7 := hid (show Below w.heap.size w w7 from b_call hb7 (by have hq := HB5.out; (repeat (first | assumption | exact Below.refl _ _ | refine b_alloc ?_ _ | refine Below.drew ?_ | refine b_drewN ?_ _ | refine Below.setCell ?_ (by first | omega | (simp; done) | (simp; omega)) _ | refine b_call (by assumption) ?_)))); clear hb7))
      go_ret
      exact ⟨rfl, HB7.out⟩
    · have wa := WA.out
      rw [decide_eq_false ka] at wa
      clear WA WB h ka
      have WA := hid wa
      clear wa
      go_enter Try.func14, Try.ntmps14
      go_wp2_with (first
        | (have m := M0; go_at_call 37; refine (written_u0 _).mono ?_; rintro e w1 ⟨rfl, hb1⟩; have HB1 := hid hb1; clear hb1 m M0; have M1 := hid trivial)
        | (have m := M1; go_at_call 37; refine (written_u1 _).mono ?_; rintro e w2 ⟨rfl, hb2⟩; have HB2 := hid (b_call hb2 HB1.out); clear hb2 m M1; have M2 := hid trivial)
        | (have m := M2; go_at_call 37; refine (written_u2 _).mono ?_; rintro e w3 ⟨rfl, hb3⟩; have HB3 := hid (b_call hb3 HB2.out); clear hb3 m M2; have M3 := hid trivial)
        | (have m := M3; go_at_call 37; refine (written_u3 _).mono ?_; rintro e w4 ⟨rfl, hb4⟩; have HB4 := hid (b_call hb4 HB3.out); clear hb4 m M3; have M4 := hid trivial)
        | (have m := M4; go_at_call 28; refine (HBN.out _ _ _ (ints8' _ _ _ _ _ _ _ _ _ _ (by simp))).mono ?_; rintro e w5 ⟨q5, rfl, hs5, hb5⟩; have HB5 := hid (b_call hb5 (b_alloc HB4.out _)); clear hb5 hs5 m M4; have M5 := hid trivial)
        | (have m := M5; go_at_call 39; refine (WA.out _).mono ?_; rintro e w' ⟨rfl, rfl⟩; clear m M5; have M6 := hid trivial)
        | (go_at_call 23; refine (HA.out _).mono ?_; rintro e w7 ⟨rfl, hb7⟩; have HB7 := hid (show Below w.heap.size w w7 from b_call hb7 (by have hq := HB5.out; (repeat (first | assumption | exact Below.refl _ _ | refine b_alloc ?_ _ | refine Below.drew ?_ | refine b_drewN ?_ _ | refine Below.setCell ?_ (by first | omega | (simp; done) | (simp; omega)) _ | refine b_call (by assumption) ?_)))); clear hb7))
      go_ret
      exact ⟨rfl, HB7.out⟩
end Go.Proofs.Ytbfhgcnfhjhgcaa
