/-
  OrderProduct: a product, Signed.
-/
import Derived.Test.YtbfhgcnfhjhgcaaBegMath
import Derived.Test.YtbfhgcnfhjhgcaaBegErr
import Derived.Test.YtbfhgcnfhjhgcaaLawB
namespace Go.Proofs.Ytbfhgcnfhjhgcaa
open Go.RowKit
set_option linter.unusedVariables false
set_option linter.unusedSimpArgs false

theorem pS_len (x y t a d w : Int) : (pS x y t a d w).store.length = 128 := by kernel_rfl
theorem stLenP (x y t a d w : Int) : StLen (pS x y t a d w) := ⟨by rw [pS_len]; unfold Len; omega, by show Len 0; unfold Len; omega, by show Len 0; unfold Len; omega⟩
theorem written_p (w : World) : Calls Try.prog 37 #[.agg #[.int .i64 4, .int .i64 1, .int .i64 2, .int .i64 3]] w (Ret w (.int .i64 8405251)) := Written_any ⟨4, 1, 2, 3⟩ (by decide) w
/-- A state of OrderProduct, handed back. -/
def PRet (x y t a d y' : Int) (w : World) (e : Ending) (w' : World) : Prop := ∃ (pa pb pc : Option Addr) (ka kb kc : Nat), e = .returned (.tuple #[.agg #[.slice pa 128 ka, .slice pb 0 kb, .int .i64 0, .slice pc 0 kc, .int .i64 t, .int .i64 a, .int .i64 d, .int .i64 y'], .int .i64 0]) ∧ StAt w' ⟨pa, pb, pc, ka, kb, kc⟩ (pS x y t a d y') ∧ Below w.heap.size w w'
theorem pBegin (a b : Int) (ha : Wd a) (hb : Wd b) (p : Option Addr) (c : Nat) (w : World) (hx : IntsAt w p [8405251, a, b]) : Calls Try.prog 28 #[.slice p 3 c, .slice none 0 0, .int .i64 0] w (PRet a b 0 0 0 0 w) := by
  have h := Begin_any p none c 0 [8405251, a, b] [] 0 w hx (fun j hj => by simp at hj)
  have e := begErr_p a b
  rw [if_pos ⟨ha, hb⟩] at e
  unfold begOf at h
  rw [e, if_pos rfl, pS_beg] at h
  refine h.mono ?_
  rintro e w' ⟨⟨pa, pb, pc, ka, kb, kc⟩, rfl, hs, hb⟩
  exact ⟨pa, pb, pc, ka, kb, kc, rfl, hs, hb⟩
theorem pBegin_no (a b : Int) (h : ¬ (Wd a ∧ Wd b)) (p : Option Addr) (c : Nat) (w : World) (hx : IntsAt w p [8405251, a, b]) : Calls Try.prog 28 #[.slice p 3 c, .slice none 0 0, .int .i64 0] w (RetS w st0 7) := by
  have h' := Begin_any p none c 0 [8405251, a, b] [] 0 w hx (fun j hj => by simp at hj)
  have e := begErr_p a b
  rw [if_neg h] at e
  unfold begOf at h'
  rw [e, if_neg (by decide)] at h'
  exact h'
theorem pRun (a b : Int) (ha : Wd a) (hb : Wd b) (pa pb pc : Option Addr) (ka kb kc : Nat) (w : World) (hx : StAt w ⟨pa, pb, pc, ka, kb, kc⟩ (pS a b 0 0 0 0)) : Calls Try.prog 31 #[.agg #[.slice pa 128 ka, .slice pb 0 kb, .int .i64 0, .slice pc 0 kc, .int .i64 0, .int .i64 0, .int .i64 0, .int .i64 0], .int .i64 1] w (PRet a (prodOf b a) 19 3 1 0 w) := by
  have h := Run_any ⟨pa, pb, pc, ka, kb, kc⟩ (pS a b 0 0 0 0) (stLenP _ _ _ _ _ _) 1 w hx
  have e := ask_of (pS_ok ha hb) (n := 1) (by decide)
  unfold runOf at h
  rw [e, if_pos rfl, show (1 : Int).toNat = 1 from rfl, pS_run] at h
  refine h.mono ?_
  rintro e w' ⟨⟨pa, pb, pc, ka, kb, kc⟩, rfl, hs, hb⟩
  exact ⟨pa, pb, pc, ka, kb, kc, rfl, hs, hb⟩
theorem pRun5 (a b : Int) (ha : Wd a) (hb : Wd b) (pa pb pc : Option Addr) (ka kb kc : Nat) (w : World) (hx : StAt w ⟨pa, pb, pc, ka, kb, kc⟩ (pS a b 0 0 0 0)) : Calls Try.prog 31 #[.agg #[.slice pa 128 ka, .slice pb 0 kb, .int .i64 0, .slice pc 0 kc, .int .i64 0, .int .i64 0, .int .i64 0, .int .i64 0], .int .i64 5] w (PRet a (prodOf b a) 19 3 1 1 w) := by
  have h := Run_any ⟨pa, pb, pc, ka, kb, kc⟩ (pS a b 0 0 0 0) (stLenP _ _ _ _ _ _) 5 w hx
  have e := ask_of (pS_ok ha hb) (n := 5) (by decide)
  unfold runOf at h
  rw [e, if_pos rfl, show (5 : Int).toNat = 5 from rfl, pS_run5] at h
  refine h.mono ?_
  rintro e w' ⟨⟨pa, pb, pc, ka, kb, kc⟩, rfl, hs, hb⟩
  exact ⟨pa, pb, pc, ka, kb, kc, rfl, hs, hb⟩
theorem stP_cells {W : World} {pa pb pc : Option Addr} {ka kb kc : Nat} {x y t a d z : Int} (h : StAt W ⟨pa, pb, pc, ka, kb, kc⟩ (pS x y t a d z)) : ∃ bs os, pa = some ⟨bs, os, none⟩ ∧ W.cell? ⟨bs, os + 1, none⟩ = some (.int .i64 x) ∧ W.cell? ⟨bs, os + 2, none⟩ = some (.int .i64 y) := by
  obtain ⟨b, o, e, hc⟩ := ints_addr' (show IntsAt W pa (pS x y t a d z).store from h.1) (by rw [pS_len]; decide)
  exact ⟨b, o, e, hc 1 (by rw [pS_len]; decide), hc 2 (by rw [pS_len]; decide)⟩
set_option maxRecDepth 100000 in
set_option maxHeartbeats 16000000 in
theorem product_any (hA : AwakeTrue) (w : World) (a b : Int) : Calls Try.prog 15 #[.int .i64 a, .int .i64 b] w (Ret w (.bool true)) := by
  have HA := hid hA
  have M0 := hid trivial
  have WA := hid (fun W => Word_any a W)
  have WB := hid (fun W => Word_any b W)
  clear hA
  by_cases h : Wd a ∧ Wd b
  · obtain ⟨ha, hb⟩ := h
    have s1 := fun W => Signed_any a W
    have s2 := fun W => Signed_any b W
    have wp := prod_wd b a
    have s3 := fun W => Signed_any (prodOf b a) W
    rw [sgn_of_ok ha] at s1
    rw [sgn_of_ok hb] at s2
    rw [sgn_of_ok (by unfold Wd; omega)] at s3
    have hp := prod_sgn ha hb
    have b1 := sgn_bd ha
    have b2 := sgn_bd hb
    have b3 := sgn_bd (show Wd (prodOf b a) by unfold Wd; omega)
    obtain ⟨b4, _⟩ := prod_law (x := sgn a) (y := sgn b) (by omega) (by omega)
    have HBG := hid (fun p c W h => pBegin a b ha hb p c W h)
    have HRN := hid (fun pa pb pc ka kb kc W h => pRun a b ha hb pa pb pc ka kb kc W h)
    have S1 := hid s1
    have S2 := hid s2
    have S3 := hid s3
    generalize prodOf b a = P at *
    generalize sgn a = X at *
    generalize sgn b = Y at *
    generalize sgn P = Z at *
    clear s1 s2 s3
    have hcs : (X = -8388608 ∧ Y = -8388608) ∨ (¬ X = -8388608 ∧ Z * 8388608 ≤ X * Y ∧ X * Y - Z * 8388608 < 8388608) ∨ (X = -8388608 ∧ ¬ Y = -8388608 ∧ Z * 8388608 ≤ X * Y ∧ X * Y - Z * 8388608 < 8388608) := by
      by_cases hx : X = -8388608
      · by_cases hy : Y = -8388608
        · exact .inl ⟨hx, hy⟩
        · exact .inr (.inr ⟨hx, hy, hp.resolve_left (fun k => hy k.2)⟩)
      · exact .inr (.inl ⟨hx, hp.resolve_left (fun k => hx k.1)⟩)
    clear hp
    rcases hcs with ⟨rfl, rfl⟩ | ⟨k1, k2, k3⟩ | ⟨rfl, k1, k2, k3⟩
    all_goals
      go_enter Try.func15, Try.ntmps15
      go_wp2_with (first
        | (have m := M0; go_at_call 37; refine (written_p _).mono ?_; rintro e w1 ⟨rfl, hb1⟩; have HB1 := hid hb1; clear hb1 m M0; have M1 := hid trivial)
        | (have m := M1; go_at_call 28; refine (HBG.out _ _ _ (ints3' _ _ _ _ _ (by simp))).mono ?_; rintro e w2 ⟨pa, pb, pc, ka, kb, kc, rfl, hs2, hb2⟩; have HB2 := hid (b_call hb2 (b_alloc HB1.out _)); have HS2 := hid hs2; clear hb2 hs2 m M1; have M2 := hid trivial)
        | (have m := M2; go_at_call 31; refine (HRN.out _ _ _ _ _ _ _ (HS2.out.below (by have hq := Below.refl w2.heap.size w2; (repeat (first | assumption | exact Below.refl _ _ | refine b_alloc ?_ _ | refine Below.drew ?_ | refine b_drewN ?_ _ | refine Below.setCell ?_ (by first | omega | (simp; done) | (simp; omega)) _ | refine b_call (by assumption) ?_))))).mono ?_; rintro e w3 ⟨pa', pb', pc', ka', kb', kc', rfl, hs3, hb3⟩; have HB3 := hid (show Below w.heap.size w w3 from b_call hb3 (by have hq := HB2.out; (repeat (first | assumption | exact Below.refl _ _ | refine b_alloc ?_ _ | refine Below.drew ?_ | refine b_drewN ?_ _ | refine Below.setCell ?_ (by first | omega | (simp; done) | (simp; omega)) _ | refine b_call (by assumption) ?_)))); obtain ⟨bs, os, rfl, c1', c2'⟩ := stP_cells hs3; have T3 := hid (Blk.new w3 #[.slice (some ⟨bs, os, none⟩) 128 ka', .slice pb' 0 kb', .int .i64 0, .slice pc' 0 kc', .int .i64 19, .int .i64 3, .int .i64 1, .int .i64 0] 37); have c1 := cell_later (b_alloc (Below.refl _ _) (.cells #[.slice (some ⟨bs, os, none⟩) 128 ka', .slice pb' 0 kb', .int .i64 0, .slice pc' 0 kc', .int .i64 19, .int .i64 3, .int .i64 1, .int .i64 0] 37)) c1'; have c2 := cell_later (b_alloc (Below.refl _ _) (.cells #[.slice (some ⟨bs, os, none⟩) 128 ka', .slice pb' 0 kb', .int .i64 0, .slice pc' 0 kc', .int .i64 19, .int .i64 3, .int .i64 1, .int .i64 0] 37)) c2'; have x0 := T3.out.cell 0 _ rfl; clear hb3 hs3 c1' c2' m M2; have M3 := hid trivial)
        | (have m := M3; go_at_call 21; refine (S1.out _).mono ?_; rintro e w4 ⟨rfl, hb4⟩; have HB4 := hid (show Below w.heap.size w w4 from b_call hb4 (by have hq := HB3.out; (repeat (first | assumption | exact Below.refl _ _ | refine b_alloc ?_ _ | refine Below.drew ?_ | refine b_drewN ?_ _ | refine Below.setCell ?_ (by first | omega | (simp; done) | (simp; omega)) _ | refine b_call (by assumption) ?_)))); have T4 := hid (T3.out.call hb4); replace c1 := cell_later hb4 c1; replace c2 := cell_later hb4 c2; clear x0; have x0 := T4.out.cell 0 _ rfl; clear hb4 m M3; have M4 := hid trivial)
        | (have m := M4; go_at_call 21; refine (S2.out _).mono ?_; rintro e w5 ⟨rfl, hb5⟩; have HB5 := hid (show Below w.heap.size w w5 from b_call hb5 (by have hq := HB4.out; (repeat (first | assumption | exact Below.refl _ _ | refine b_alloc ?_ _ | refine Below.drew ?_ | refine b_drewN ?_ _ | refine Below.setCell ?_ (by first | omega | (simp; done) | (simp; omega)) _ | refine b_call (by assumption) ?_)))); have T5 := hid (T4.out.call hb5); replace c1 := cell_later hb5 c1; replace c2 := cell_later hb5 c2; clear x0; have x0 := T5.out.cell 0 _ rfl; clear hb5 m M4; have M5 := hid trivial)
        | (have m := M5; go_at_call 21; refine (S3.out _).mono ?_; rintro e w6 ⟨rfl, hb6⟩; have HB6 := hid (show Below w.heap.size w w6 from b_call hb6 (by have hq := HB5.out; (repeat (first | assumption | exact Below.refl _ _ | refine b_alloc ?_ _ | refine Below.drew ?_ | refine b_drewN ?_ _ | refine Below.setCell ?_ (by first | omega | (simp; done) | (simp; omega)) _ | refine b_call (by assumption) ?_)))); have T6 := hid (T5.out.call hb6); replace c1 := cell_later hb6 c1; replace c2 := cell_later hb6 c2; clear x0; have x0 := T6.out.cell 0 _ rfl; clear hb6 m M5)
        | (go_at_call 23; refine (HA.out _).mono ?_; rintro e w7 ⟨rfl, hb7⟩; have HB7 := hid (show Below w.heap.size w w7 from b_call hb7 (by have hq := HB6.out; (repeat (first | assumption | exact Below.refl _ _ | refine b_alloc ?_ _ | refine Below.drew ?_ | refine b_drewN ?_ _ | refine Below.setCell ?_ (by first | omega | (simp; done) | (simp; omega)) _ | refine b_call (by assumption) ?_)))); clear hb7))
      go_ret
      exact ⟨rfl, HB7.out⟩
  · have HBN := hid (fun p c W hx => pBegin_no a b h p c W hx)
    by_cases ka : Wd a
    · have kb : ¬ Wd b := fun k => h ⟨ka, k⟩
      have wa := WA.out
      have wb := WB.out
      rw [decide_eq_true ka] at wa
      rw [decide_eq_false kb] at wb
      clear WA WB h ka kb
      have WA := hid wa
      have WB := hid wb
      clear wa wb
      go_enter Try.func15, Try.ntmps15
      go_wp2_with (first
        | (have m := M0; go_at_call 37; refine (written_p _).mono ?_; rintro e w1 ⟨rfl, hb1⟩; have HB1 := hid hb1; clear hb1 m M0; have M1 := hid trivial)
        | (have m := M1; go_at_call 28; refine (HBN.out _ _ _ (ints3' _ _ _ _ _ (by simp))).mono ?_; rintro e w2 ⟨q2, rfl, hs2, hb2⟩; have HB2 := hid (b_call hb2 (b_alloc HB1.out _)); clear hb2 hs2 m M1; have M2 := hid trivial)
        | (have m := M2; go_at_call 39; refine (WA.out _).mono ?_; rintro e w' ⟨rfl, rfl⟩; clear m M2; have M3 := hid trivial)
        | (have m := M3; go_at_call 39; refine (WB.out _).mono ?_; rintro e w' ⟨rfl, rfl⟩; clear m M3)
        | (go_at_call 23; refine (HA.out _).mono ?_; rintro e w7 ⟨rfl, hb7⟩; have HB7 := hid (show Below w.heap.size w w7 from b_call hb7 (by have hq := HB2.out; (repeat (first | assumption | exact Below.refl _ _ | refine b_alloc ?_ _ | refine Below.drew ?_ | refine b_drewN ?_ _ | refine Below.setCell ?_ (by first | omega | (simp; done) | (simp; omega)) _ | refine b_call (by assumption) ?_)))); clear hb7))
      go_ret
      exact ⟨rfl, HB7.out⟩
    · have wa := WA.out
      rw [decide_eq_false ka] at wa
      clear WA WB h ka
      have WA := hid wa
      clear wa
      go_enter Try.func15, Try.ntmps15
      go_wp2_with (first
        | (have m := M0; go_at_call 37; refine (written_p _).mono ?_; rintro e w1 ⟨rfl, hb1⟩; have HB1 := hid hb1; clear hb1 m M0; have M1 := hid trivial)
        | (have m := M1; go_at_call 28; refine (HBN.out _ _ _ (ints3' _ _ _ _ _ (by simp))).mono ?_; rintro e w2 ⟨q2, rfl, hs2, hb2⟩; have HB2 := hid (b_call hb2 (b_alloc HB1.out _)); clear hb2 hs2 m M1; have M2 := hid trivial)
        | (have m := M2; go_at_call 39; refine (WA.out _).mono ?_; rintro e w' ⟨rfl, rfl⟩; clear m M2; have M3 := hid trivial)
        | (go_at_call 23; refine (HA.out _).mono ?_; rintro e w7 ⟨rfl, hb7⟩; have HB7 := hid (show Below w.heap.size w w7 from b_call hb7 (by have hq := HB2.out; (repeat (first | assumption | exact Below.refl _ _ | refine b_alloc ?_ _ | refine Below.drew ?_ | refine b_drewN ?_ _ | refine Below.setCell ?_ (by first | omega | (simp; done) | (simp; omega)) _ | refine b_call (by assumption) ?_)))); clear hb7))
      go_ret
      exact ⟨rfl, HB7.out⟩
end Go.Proofs.Ytbfhgcnfhjhgcaa
