/-
  The reference's After, when and When.
-/
import Derived.Test.YtbfhgcnfhjhgcaaFollow
namespace Go.Proofs.Ytbfhgcnfhjhgcaa
open Go.RowKit
set_option linter.unusedVariables false
set_option linter.unusedSimpArgs false

set_option maxHeartbeats 1000000 in
theorem After_any (c a : Int) (hc : 0 ≤ c ∧ c ≤ 100000000000) (ha : 0 ≤ a ∧ a ≤ 1000000000000) (w : World) :
    Calls Try.prog 67 #[.int .i64 c, .int .i64 a] w fun e w' => e = .returned (.int .i64 (aft c a)) ∧ w = w' := by
  have hs := aft_spec c a ha.1
  have HU := hid (fun t h1 h2 h3 => aft_unique (c := c) (a := a) (t := t) ha.1 h1 h2 h3)
  obtain ⟨q, hq⟩ : ∃ q, aft c a = q := ⟨_, rfl⟩
  rw [hq] at hs HU ⊢
  clear hq
  go_enter Try.func67, Try.ntmps67
  go_wp2
  go_loop [5] (fun tv => ∃ t : Int, c < t ∧ t ≤ q ∧ tv = .int .i64 t) (fun tv => (q - intOf tv).toNat)
  case atStart => exact ⟨c + 1, by omega, by omega, rfl⟩
  case round =>
    obtain ⟨t, h1, h2, rfl⟩ := hrel
    by_cases hm : t % 16 = a % 16
    · have e := HU.out t h1 (by omega) hm
      have e2 : (t % 16 == a % 16) = true := by simpa using hm
      subst e
      go_wp2
      go_ret
      exact ⟨rfl, rfl⟩
    · have hlt : t < q := by
        by_cases g : t = q
        · subst g; omega
        · omega
      have e2 : (t % 16 == a % 16) = false := by simpa using hm
      have e3 : (t % 16 != a % 16) = true := by simpa using hm
      go_wp2
      go_round
      case rel => exact ⟨t + 1, by omega, by omega, rfl⟩
      case measure => simp [intOf]; omega

theorem fol6 (fr tt nx t : Int) (neg : Bool) : folOf ⟨6, fr, tt, nx⟩ t neg = (nx, aft (aft t tt) nx) := by simp [folOf, lastOf, comeTo, waitsOf, cycAt, List.range_succ]
theorem fol4 (fr tt nx t : Int) (neg : Bool) : folOf ⟨4, fr, tt, nx⟩ t neg = (nx, aft (aft (aft (aft t fr) tt + 12) tt) nx) := by simp [folOf, lastOf, comeTo, waitsOf, cycAt, List.range_succ]
theorem fol5t (fr tt nx t : Int) : folOf ⟨5, fr, tt, nx⟩ t true = (tt, aft (aft t fr) tt) := by simp [folOf, lastOf, comeTo, waitsOf, cycAt, List.range_succ]
theorem fol5f (fr tt nx t : Int) : folOf ⟨5, fr, tt, nx⟩ t false = (nx, aft (aft t fr) nx) := by simp [folOf, lastOf, comeTo, waitsOf, cycAt, List.range_succ]
theorem fol7 (fr tt nx t : Int) (neg : Bool) : folOf ⟨7, fr, tt, nx⟩ t neg = (nx, aft (aft t fr) nx) := by simp [folOf, lastOf, comeTo, waitsOf, cycAt, List.range_succ]
theorem folx (op fr tt nx t : Int) (neg : Bool) (h6 : ¬ op = 6) (h4 : ¬ op = 4) (h5 : ¬ op = 5) (h7 : ¬ op = 7) : folOf ⟨op, fr, tt, nx⟩ t neg = (nx, aft (aft (aft t fr) tt) nx) := by simp [folOf, lastOf, comeTo, waitsOf, cycAt, List.range_succ, h6, h4, h5, h7]

set_option maxRecDepth 100000 in
set_option maxHeartbeats 4000000 in
theorem when_any (o : Od) (ho : o.Ok) (t : Int) (ht : 0 ≤ t ∧ t ≤ 2000000000) (neg : Bool) (w : World) :
    Calls Try.prog 51 #[o.val, .int .i64 t, .bool neg] w (Ret w (.tuple #[.int .i64 (folOf o t neg).1, .int .i64 (folOf o t neg).2])) := by
  obtain ⟨op, fr, tt, nx⟩ := o
  obtain ⟨h1, h2, h3, h4⟩ := ho
  simp only at h1 h2 h3 h4
  have a1 := aft_spec t fr h2.1
  have a2 := aft_spec t tt h3.1
  have a3 := aft_spec (aft t fr) tt h3.1
  have a4 := aft_spec (aft (aft t fr) tt + 12) tt h3.1
  have hcs : op = 6 ∨ op = 4 ∨ (op = 5 ∧ neg = true) ∨ (op = 5 ∧ neg = false) ∨ op = 7 ∨ (¬ op = 6 ∧ ¬ op = 4 ∧ ¬ op = 5 ∧ ¬ op = 7) := by
    cases neg <;> simp <;> omega
  rcases hcs with rfl | rfl | ⟨rfl, rfl⟩ | ⟨rfl, rfl⟩ | rfl | ⟨n6, n4, n5, n7⟩
  · rw [fol6]
    go_enter Try.func51, Try.ntmps51
    go_wp2_with (go_at_call 67; refine (After_any _ _ (by omega) (by omega) _).mono ?_; rintro e w' ⟨rfl, rfl⟩)
    go_ret2
    exact ⟨rfl, by (repeat (first | assumption | exact Below.refl _ _ | refine b_alloc ?_ _ | refine Below.drew ?_ | refine b_drewN ?_ _ | refine Below.setCell ?_ (by first | omega | (simp; done) | (simp; omega)) _ | refine b_call (by assumption) ?_))⟩
  · rw [fol4]
    go_enter Try.func51, Try.ntmps51
    go_wp2_with (go_at_call 67; refine (After_any _ _ (by omega) (by omega) _).mono ?_; rintro e w' ⟨rfl, rfl⟩)
    go_ret2
    exact ⟨rfl, by (repeat (first | assumption | exact Below.refl _ _ | refine b_alloc ?_ _ | refine Below.drew ?_ | refine b_drewN ?_ _ | refine Below.setCell ?_ (by first | omega | (simp; done) | (simp; omega)) _ | refine b_call (by assumption) ?_))⟩
  · rw [fol5t]
    go_enter Try.func51, Try.ntmps51
    go_wp2_with (go_at_call 67; refine (After_any _ _ (by omega) (by omega) _).mono ?_; rintro e w' ⟨rfl, rfl⟩)
    go_ret2
    exact ⟨rfl, by (repeat (first | assumption | exact Below.refl _ _ | refine b_alloc ?_ _ | refine Below.drew ?_ | refine b_drewN ?_ _ | refine Below.setCell ?_ (by first | omega | (simp; done) | (simp; omega)) _ | refine b_call (by assumption) ?_))⟩
  · rw [fol5f]
    go_enter Try.func51, Try.ntmps51
    go_wp2_with (go_at_call 67; refine (After_any _ _ (by omega) (by omega) _).mono ?_; rintro e w' ⟨rfl, rfl⟩)
    go_ret2
    exact ⟨rfl, by (repeat (first | assumption | exact Below.refl _ _ | refine b_alloc ?_ _ | refine Below.drew ?_ | refine b_drewN ?_ _ | refine Below.setCell ?_ (by first | omega | (simp; done) | (simp; omega)) _ | refine b_call (by assumption) ?_))⟩
  · rw [fol7]
    go_enter Try.func51, Try.ntmps51
    go_wp2_with (go_at_call 67; refine (After_any _ _ (by omega) (by omega) _).mono ?_; rintro e w' ⟨rfl, rfl⟩)
    go_ret2
    exact ⟨rfl, by (repeat (first | assumption | exact Below.refl _ _ | refine b_alloc ?_ _ | refine Below.drew ?_ | refine b_drewN ?_ _ | refine Below.setCell ?_ (by first | omega | (simp; done) | (simp; omega)) _ | refine b_call (by assumption) ?_))⟩
  · rw [folx _ _ _ _ _ _ n6 n4 n5 n7]
    have e6 : (op != 6) = true := by simpa using n6
    have e4 : (op == 4) = false := by simpa using n4
    have e5 : (op == 5) = false := by simpa using n5
    have e5' : (op != 5) = true := by simpa using n5
    have e7 : (op != 7) = true := by simpa using n7
    clear n6 n4 n5 n7
    go_enter Try.func51, Try.ntmps51
    go_wp2_with (go_at_call 67; refine (After_any _ _ (by omega) (by omega) _).mono ?_; rintro e w' ⟨rfl, rfl⟩)
    go_ret2
    exact ⟨rfl, by (repeat (first | assumption | exact Below.refl _ _ | refine b_alloc ?_ _ | refine Below.drew ?_ | refine b_drewN ?_ _ | refine Below.setCell ?_ (by first | omega | (simp; done) | (simp; omega)) _ | refine b_call (by assumption) ?_))⟩

set_option maxRecDepth 100000 in
set_option maxHeartbeats 2000000 in
theorem refWhen_any (o : Od) (t : Int) (neg : Bool) (w : World) : Calls Try.prog 25 #[o.val, .int .i64 t, .bool neg] w (Ret w (val3 (whenOf o t neg).1 (whenOf o t neg).2 (whenErr o t))) := by
  have HO := hid (odAt_new w o)
  have hi := fun W => refOrder_any o W
  by_cases h : o.Ok
  · rw [decide_eq_true h] at hi
    by_cases h2 : 0 ≤ t ∧ t ≤ 1000000000
    · have ht := fun W => in_any t 0 1000000000 W
      rw [decide_eq_true h2] at ht
      by_cases h0 : o.op = 0
      · have e : whenErr o t = 2 := by unfold whenErr; rw [if_pos ⟨h, h2⟩, if_pos h0]
        have e2 : whenOf o t neg = (0, 0) := by unfold whenOf; rw [e]; rfl
        rw [e, e2]
        have HI := hid hi
        have HT := hid ht
        have H0 := hid h0
        clear hi ht e e2 h h0
        go_enter Try.func25, Try.ntmps25
        go_wp2_with (first
          | (go_at_call 42; refine (HI.out _).mono ?_; rintro e w1 ⟨rfl, hb1⟩; have HB1 := hid (show Below w.heap.size w w1 from b_call hb1 (by (repeat (first | assumption | exact Below.refl _ _ | refine b_alloc ?_ _ | refine Below.drew ?_ | refine b_drewN ?_ _ | refine Below.setCell ?_ (by first | omega | (simp; done) | (simp; omega)) _ | refine b_call (by assumption) ?_)))); obtain ⟨d0, d1, d2, d3⟩ := odAt_call HO.out hb1; rw [H0.out] at d0; clear hb1)
          | (go_at_call 50; refine (HT.out _).mono ?_; rintro e w2 ⟨rfl, rfl⟩))
        go_ret3
        exact ⟨rfl, HB1.out⟩
      · have e : whenErr o t = 0 := by unfold whenErr; rw [if_pos ⟨h, h2⟩, if_neg h0]
        have e2 : whenOf o t neg = folOf o t neg := by unfold whenOf; rw [if_pos e]
        rw [e, e2]
        have HI := hid hi
        have HT := hid ht
        have HFO := hid (fun W => when_any o h t (by omega) neg W)
        have h0' : (o.op == 0) = false := by simpa using h0
        generalize folOf o t neg = z at *
        obtain ⟨za, zc⟩ := z
        clear hi ht e e2 h h0
        go_enter Try.func25, Try.ntmps25
        go_wp2_with (first
          | (go_at_call 42; refine (HI.out _).mono ?_; rintro e w1 ⟨rfl, hb1⟩; have HB1 := hid (show Below w.heap.size w w1 from b_call hb1 (by (repeat (first | assumption | exact Below.refl _ _ | refine b_alloc ?_ _ | refine Below.drew ?_ | refine b_drewN ?_ _ | refine Below.setCell ?_ (by first | omega | (simp; done) | (simp; omega)) _ | refine b_call (by assumption) ?_)))); obtain ⟨d0, d1, d2, d3⟩ := odAt_call HO.out hb1; clear hb1)
          | (go_at_call 50; refine (HT.out _).mono ?_; rintro e w2 ⟨rfl, rfl⟩)
          | (go_at_call 51; refine (HFO.out _).mono ?_; rintro e w3 ⟨rfl, hb3⟩; have HB3 := hid (b_call hb3 HB1.out); clear hb3))
        go_ret3
        exact ⟨rfl, HB3.out⟩
    · have ht := fun W => in_any t 0 1000000000 W
      rw [decide_eq_false h2] at ht
      have e : whenErr o t = 7 := by unfold whenErr; rw [if_neg (fun g => h2 g.2)]
      have e2 : whenOf o t neg = (0, 0) := by unfold whenOf; rw [e]; rfl
      rw [e, e2]
      have HI := hid hi
      have HT := hid ht
      clear hi ht e e2 h h2
      go_enter Try.func25, Try.ntmps25
      go_wp2_with (first
        | (go_at_call 42; refine (HI.out _).mono ?_; rintro e w1 ⟨rfl, hb1⟩; have HB1 := hid (show Below w.heap.size w w1 from b_call hb1 (by (repeat (first | assumption | exact Below.refl _ _ | refine b_alloc ?_ _ | refine Below.drew ?_ | refine b_drewN ?_ _ | refine Below.setCell ?_ (by first | omega | (simp; done) | (simp; omega)) _ | refine b_call (by assumption) ?_)))); clear hb1)
        | (go_at_call 50; refine (HT.out _).mono ?_; rintro e w2 ⟨rfl, rfl⟩))
      go_ret3
      exact ⟨rfl, HB1.out⟩
  · rw [decide_eq_false h] at hi
    have e : whenErr o t = 7 := by unfold whenErr; rw [if_neg (fun g => h g.1)]
    have e2 : whenOf o t neg = (0, 0) := by unfold whenOf; rw [e]; rfl
    rw [e, e2]
    have HI := hid hi
    clear hi e e2 h
    go_enter Try.func25, Try.ntmps25
    go_wp2_with (go_at_call 42; refine (HI.out _).mono ?_; rintro e w1 ⟨rfl, hb1⟩; have HB1 := hid (show Below w.heap.size w w1 from b_call hb1 (by (repeat (first | assumption | exact Below.refl _ _ | refine b_alloc ?_ _ | refine Below.drew ?_ | refine b_drewN ?_ _ | refine Below.setCell ?_ (by first | omega | (simp; done) | (simp; omega)) _ | refine b_call (by assumption) ?_)))); clear hb1)
    go_ret3
    exact ⟨rfl, HB1.out⟩
end Go.Proofs.Ytbfhgcnfhjhgcaa
