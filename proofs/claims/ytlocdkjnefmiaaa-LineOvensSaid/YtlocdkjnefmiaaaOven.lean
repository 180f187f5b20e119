/-
  isChange, ovenError.
-/
import Derived.Test.YtlocdkjnefmiaaaGCan
namespace Go.Proofs.Ytlocdkjnefmiaaa
open Go.RowKit
set_option linter.unusedVariables false
set_option linter.unusedSimpArgs false

abbrev Change (s : Int × Int) : Prop := (0 ≤ s.1 ∧ s.1 ≤ 100) ∧ 0 ≤ s.2 ∧ s.2 ≤ 100
set_option maxHeartbeats 1000000 in
theorem isChange_any (s : Int × Int) (w : World) : Calls Try.prog 96 #[spanV s] w (Ret w (.bool (decide (Change s)))) := by
  obtain ⟨lo, hi⟩ := s
  go_enter Try.func96, Try.ntmps96
  go_wp2_with (go_at_call 53; refine (within_any _ _ _ _).mono ?_; rintro e w1 ⟨rfl, rfl⟩)
  all_goals
    go_ret
    refine ⟨ret_bool ?_, by (repeat (first | assumption | exact Below.refl _ _ | refine b_alloc ?_ _ | refine Below.drew ?_ | refine b_drewN ?_ _ | refine Below.setCell ?_ (by first | omega | (simp; done) | (simp; omega)) _ | refine b_call (by assumption) ?_))⟩
    simp_all [Change]
    try omega

/-- An oven. -/
structure Ov where
  lo : Int
  hi : Int
  warm : Int × Int
  cool : Int × Int
abbrev Ov.val (o : Ov) : Value := .agg #[.int .i64 o.lo, .int .i64 o.hi, .int .i64 o.warm.1, .int .i64 o.warm.2, .int .i64 o.cool.1, .int .i64 o.cool.2]
/-- The error of an oven, of temperatures and of minutes. -/
def ovErr (o : Ov) (s : Int × Int) (m : Int) : Int :=
  if Temp o.lo ∧ Temp o.hi ∧ Change o.warm ∧ Change o.cool then
    (if o.lo ≤ o.hi ∧ o.warm.1 ≤ o.warm.2 ∧ o.cool.1 ≤ o.cool.2 then (if spanErr s = 0 then (if 0 ≤ m ∧ m ≤ 200 then 0 else 7) else spanErr s) else 2)
  else 7

/-- An oven lies in block b, a span in the next. -/
def OvAt (b : Nat) (lo hi wl wh cl ch sl sh : Int) (W : World) : Prop :=
  (W.cell? ⟨b, 0, none⟩ = some (.int .i64 lo) ∧ W.cell? ⟨b, 1, none⟩ = some (.int .i64 hi) ∧ W.cell? ⟨b, 2, none⟩ = some (.int .i64 wl) ∧ W.cell? ⟨b, 3, none⟩ = some (.int .i64 wh)) ∧ W.cell? ⟨b, 4, none⟩ = some (.int .i64 cl) ∧ W.cell? ⟨b, 5, none⟩ = some (.int .i64 ch) ∧
    W.cell? ⟨b + 1, 0, none⟩ = some (.int .i64 sl) ∧ W.cell? ⟨b + 1, 1, none⟩ = some (.int .i64 sh)
theorem OvAt.call {b : Nat} {lo hi wl wh cl ch sl sh : Int} {W W' : World} (h : OvAt b lo hi wl wh cl ch sl sh W) (hb : Below W.heap.size W W') : OvAt b lo hi wl wh cl ch sl sh W' := by
  obtain ⟨⟨a0, a1, a2, a3⟩, a4, a5, a6, a7⟩ := h
  exact ⟨⟨cell_later hb a0, cell_later hb a1, cell_later hb a2, cell_later hb a3⟩, cell_later hb a4, cell_later hb a5, cell_later hb a6, cell_later hb a7⟩
theorem OvAt.new (w : World) (lo hi wl wh cl ch sl sh : Int) : OvAt w.heap.size lo hi wl wh cl ch sl sh ((w.alloc (.cells #[.int .i64 lo, .int .i64 hi, .int .i64 wl, .int .i64 wh, .int .i64 cl, .int .i64 ch] 50)).alloc (.cells #[.int .i64 sl, .int .i64 sh] 31)) := by
  have h := fun o v e => ((Cel.new w #[.int .i64 lo, .int .i64 hi, .int .i64 wl, .int .i64 wh, .int .i64 cl, .int .i64 ch] 50 o v e).alloc (.cells #[.int .i64 sl, .int .i64 sh] 31)).1
  have k := fun o v e => (Cel.new (w.alloc (.cells #[.int .i64 lo, .int .i64 hi, .int .i64 wl, .int .i64 wh, .int .i64 cl, .int .i64 ch] 50)) #[.int .i64 sl, .int .i64 sh] 31 o v e).1
  rw [World.size_alloc] at k
  exact ⟨⟨h 0 _ rfl, h 1 _ rfl, h 2 _ rfl, h 3 _ rfl⟩, h 4 _ rfl, h 5 _ rfl, k 0 _ rfl, k 1 _ rfl⟩


def ovRes (lo hi wl wh cl ch er : Int) (b1 b2 b3 b4 b5 : Bool) : Int := if b1 = true ∧ b2 = true ∧ b3 = true ∧ b4 = true then (if lo ≤ hi ∧ wl ≤ wh ∧ cl ≤ ch then (if er = 0 then (if b5 = true then 0 else 7) else er) else 2) else 7
set_option maxRecDepth 100000 in
set_option maxHeartbeats 4000000 in
theorem ovenError_walk (lo hi wl wh cl ch sl sh m er : Int) (b1 b2 b3 b4 b5 : Bool) (H1 : ∀ W, Calls Try.prog 57 #[.int .i64 lo] W fun e w' => e = .returned (.bool b1) ∧ W = w') (H2 : ∀ W, Calls Try.prog 57 #[.int .i64 hi] W fun e w' => e = .returned (.bool b2) ∧ W = w')
    (H3 : ∀ W, Calls Try.prog 96 #[spanV (wl, wh)] W (Ret W (.bool b3))) (H4 : ∀ W, Calls Try.prog 96 #[spanV (cl, ch)] W (Ret W (.bool b4)))
    (H5 : ∀ W, Calls Try.prog 94 #[spanV (sl, sh)] W (Ret W (.int .i64 er))) (H6 : ∀ W, Calls Try.prog 53 #[.int .i64 m, .int .i64 0, .int .i64 200] W fun e w' => e = .returned (.bool b5) ∧ W = w') (w : World) :
    Calls Try.prog 78 #[.agg #[.int .i64 lo, .int .i64 hi, .int .i64 wl, .int .i64 wh, .int .i64 cl, .int .i64 ch], .agg #[.int .i64 sl, .int .i64 sh], .int .i64 m] w
      (Ret w (.int .i64 (ovRes lo hi wl wh cl ch er b1 b2 b3 b4 b5))) := by
  have HO := hid (OvAt.new w lo hi wl wh cl ch sl sh)
  have HH1 := hid H1
  have HH2 := hid H2
  have HH3 := hid H3
  have HH4 := hid H4
  have HH5 := hid H5
  have HH6 := hid H6
  clear H1 H2 H3 H4 H5 H6
  have fin : ∀ {W : World} {v v' : Int}, v = v' → Below w.heap.size w W → Ret w (.int .i64 v') (.returned (.int .i64 v)) W := fun h hb => ⟨by rw [h], hb⟩
  go_enter Try.func78, Try.ntmps78
  cases b1
  · (go_wp2_with (first
    | (go_at_call 57; refine (HH1.out _).mono ?_; rintro e w' ⟨rfl, rfl⟩; clear HH1)
    | (go_at_call 57; refine (HH2.out _).mono ?_; rintro e w' ⟨rfl, rfl⟩)
    | (go_at_call 96; refine (HH3.out _).mono ?_; clear HH3; rintro e w3 ⟨rfl, hb3⟩; have hB3 := hid (show Below w.heap.size w w3 by (repeat (first | assumption | exact Below.refl _ _ | refine b_alloc ?_ _ | refine Below.drew ?_ | refine b_drewN ?_ _ | refine Below.setCell ?_ (by first | omega | (simp; done) | (simp; omega)) _ | refine b_call (by assumption) ?_))); have hO3 := hid (HO.out.call hb3); clear hb3; obtain ⟨⟨d0, d1, d2, d3⟩, d4, d5, d6, d7⟩ := hO3.out)
    | (go_at_call 96; refine (HH4.out _).mono ?_; rintro e w4 ⟨rfl, hb4⟩; have hB4 := hid (b_call hb4 hB3.out); have hO4 := hid (hO3.out.call hb4); clear hb4 d0 d1 d2 d3 d4 d5 d6 d7; obtain ⟨⟨d0, d1, d2, d3⟩, d4, d5, d6, d7⟩ := hO4.out)
    | (go_at_call 94; refine (HH5.out _).mono ?_; rintro e w5 ⟨rfl, hb5⟩; have hB5 := hid (b_call hb5 hB4.out); clear hb5 d0 d1 d2 d3 d4 d5 d6 d7)
    | (go_at_call 53; refine (HH6.out _).mono ?_; rintro e w' ⟨rfl, rfl⟩)))
    go_ret; exact fin (by simp [ovRes]) (by (repeat (first | assumption | exact Below.refl _ _ | refine b_alloc ?_ _ | refine Below.drew ?_ | refine b_drewN ?_ _ | refine Below.setCell ?_ (by first | omega | (simp; done) | (simp; omega)) _ | refine b_call (by assumption) ?_)))
  cases b2
  · (go_wp2_with (first
    | (go_at_call 57; refine (HH1.out _).mono ?_; rintro e w' ⟨rfl, rfl⟩; clear HH1)
    | (go_at_call 57; refine (HH2.out _).mono ?_; rintro e w' ⟨rfl, rfl⟩)
    | (go_at_call 96; refine (HH3.out _).mono ?_; clear HH3; rintro e w3 ⟨rfl, hb3⟩; have hB3 := hid (show Below w.heap.size w w3 by (repeat (first | assumption | exact Below.refl _ _ | refine b_alloc ?_ _ | refine Below.drew ?_ | refine b_drewN ?_ _ | refine Below.setCell ?_ (by first | omega | (simp; done) | (simp; omega)) _ | refine b_call (by assumption) ?_))); have hO3 := hid (HO.out.call hb3); clear hb3; obtain ⟨⟨d0, d1, d2, d3⟩, d4, d5, d6, d7⟩ := hO3.out)
    | (go_at_call 96; refine (HH4.out _).mono ?_; rintro e w4 ⟨rfl, hb4⟩; have hB4 := hid (b_call hb4 hB3.out); have hO4 := hid (hO3.out.call hb4); clear hb4 d0 d1 d2 d3 d4 d5 d6 d7; obtain ⟨⟨d0, d1, d2, d3⟩, d4, d5, d6, d7⟩ := hO4.out)
    | (go_at_call 94; refine (HH5.out _).mono ?_; rintro e w5 ⟨rfl, hb5⟩; have hB5 := hid (b_call hb5 hB4.out); clear hb5 d0 d1 d2 d3 d4 d5 d6 d7)
    | (go_at_call 53; refine (HH6.out _).mono ?_; rintro e w' ⟨rfl, rfl⟩)))
    go_ret; exact fin (by simp [ovRes]) (by (repeat (first | assumption | exact Below.refl _ _ | refine b_alloc ?_ _ | refine Below.drew ?_ | refine b_drewN ?_ _ | refine Below.setCell ?_ (by first | omega | (simp; done) | (simp; omega)) _ | refine b_call (by assumption) ?_)))
  cases b3
  · (go_wp2_with (first
    | (go_at_call 57; refine (HH1.out _).mono ?_; rintro e w' ⟨rfl, rfl⟩; clear HH1)
    | (go_at_call 57; refine (HH2.out _).mono ?_; rintro e w' ⟨rfl, rfl⟩)
    | (go_at_call 96; refine (HH3.out _).mono ?_; clear HH3; rintro e w3 ⟨rfl, hb3⟩; have hB3 := hid (show Below w.heap.size w w3 by (repeat (first | assumption | exact Below.refl _ _ | refine b_alloc ?_ _ | refine Below.drew ?_ | refine b_drewN ?_ _ | refine Below.setCell ?_ (by first | omega | (simp; done) | (simp; omega)) _ | refine b_call (by assumption) ?_))); have hO3 := hid (HO.out.call hb3); clear hb3; obtain ⟨⟨d0, d1, d2, d3⟩, d4, d5, d6, d7⟩ := hO3.out)
    | (go_at_call 96; refine (HH4.out _).mono ?_; rintro e w4 ⟨rfl, hb4⟩; have hB4 := hid (b_call hb4 hB3.out); have hO4 := hid (hO3.out.call hb4); clear hb4 d0 d1 d2 d3 d4 d5 d6 d7; obtain ⟨⟨d0, d1, d2, d3⟩, d4, d5, d6, d7⟩ := hO4.out)
    | (go_at_call 94; refine (HH5.out _).mono ?_; rintro e w5 ⟨rfl, hb5⟩; have hB5 := hid (b_call hb5 hB4.out); clear hb5 d0 d1 d2 d3 d4 d5 d6 d7)
    | (go_at_call 53; refine (HH6.out _).mono ?_; rintro e w' ⟨rfl, rfl⟩)))
    go_ret; exact fin (by simp [ovRes]) hB3.out
  cases b4
  · (go_wp2_with (first
    | (go_at_call 57; refine (HH1.out _).mono ?_; rintro e w' ⟨rfl, rfl⟩; clear HH1)
    | (go_at_call 57; refine (HH2.out _).mono ?_; rintro e w' ⟨rfl, rfl⟩)
    | (go_at_call 96; refine (HH3.out _).mono ?_; clear HH3; rintro e w3 ⟨rfl, hb3⟩; have hB3 := hid (show Below w.heap.size w w3 by (repeat (first | assumption | exact Below.refl _ _ | refine b_alloc ?_ _ | refine Below.drew ?_ | refine b_drewN ?_ _ | refine Below.setCell ?_ (by first | omega | (simp; done) | (simp; omega)) _ | refine b_call (by assumption) ?_))); have hO3 := hid (HO.out.call hb3); clear hb3; obtain ⟨⟨d0, d1, d2, d3⟩, d4, d5, d6, d7⟩ := hO3.out)
    | (go_at_call 96; refine (HH4.out _).mono ?_; rintro e w4 ⟨rfl, hb4⟩; have hB4 := hid (b_call hb4 hB3.out); have hO4 := hid (hO3.out.call hb4); clear hb4 d0 d1 d2 d3 d4 d5 d6 d7; obtain ⟨⟨d0, d1, d2, d3⟩, d4, d5, d6, d7⟩ := hO4.out)
    | (go_at_call 94; refine (HH5.out _).mono ?_; rintro e w5 ⟨rfl, hb5⟩; have hB5 := hid (b_call hb5 hB4.out); clear hb5 d0 d1 d2 d3 d4 d5 d6 d7)
    | (go_at_call 53; refine (HH6.out _).mono ?_; rintro e w' ⟨rfl, rfl⟩)))
    go_ret; exact fin (by simp [ovRes]) hB4.out
  by_cases ha : lo ≤ hi
  · by_cases hb : wl ≤ wh
    · by_cases hc : cl ≤ ch
      · by_cases hd : er = 0
        · subst hd
          cases b5
          · (go_wp2_with (first
    | (go_at_call 57; refine (HH1.out _).mono ?_; rintro e w' ⟨rfl, rfl⟩; clear HH1)
    | (go_at_call 57; refine (HH2.out _).mono ?_; rintro e w' ⟨rfl, rfl⟩)
    | (go_at_call 96; refine (HH3.out _).mono ?_; clear HH3; rintro e w3 ⟨rfl, hb3⟩; have hB3 := hid (show Below w.heap.size w w3 by (repeat (first | assumption | exact Below.refl _ _ | refine b_alloc ?_ _ | refine Below.drew ?_ | refine b_drewN ?_ _ | refine Below.setCell ?_ (by first | omega | (simp; done) | (simp; omega)) _ | refine b_call (by assumption) ?_))); have hO3 := hid (HO.out.call hb3); clear hb3; obtain ⟨⟨d0, d1, d2, d3⟩, d4, d5, d6, d7⟩ := hO3.out)
    | (go_at_call 96; refine (HH4.out _).mono ?_; rintro e w4 ⟨rfl, hb4⟩; have hB4 := hid (b_call hb4 hB3.out); have hO4 := hid (hO3.out.call hb4); clear hb4 d0 d1 d2 d3 d4 d5 d6 d7; obtain ⟨⟨d0, d1, d2, d3⟩, d4, d5, d6, d7⟩ := hO4.out)
    | (go_at_call 94; refine (HH5.out _).mono ?_; rintro e w5 ⟨rfl, hb5⟩; have hB5 := hid (b_call hb5 hB4.out); clear hb5 d0 d1 d2 d3 d4 d5 d6 d7)
    | (go_at_call 53; refine (HH6.out _).mono ?_; rintro e w' ⟨rfl, rfl⟩)))
            go_ret; exact fin (by simp [ovRes, ha, hb, hc]) hB5.out
          · (go_wp2_with (first
    | (go_at_call 57; refine (HH1.out _).mono ?_; rintro e w' ⟨rfl, rfl⟩; clear HH1)
    | (go_at_call 57; refine (HH2.out _).mono ?_; rintro e w' ⟨rfl, rfl⟩)
    | (go_at_call 96; refine (HH3.out _).mono ?_; clear HH3; rintro e w3 ⟨rfl, hb3⟩; have hB3 := hid (show Below w.heap.size w w3 by (repeat (first | assumption | exact Below.refl _ _ | refine b_alloc ?_ _ | refine Below.drew ?_ | refine b_drewN ?_ _ | refine Below.setCell ?_ (by first | omega | (simp; done) | (simp; omega)) _ | refine b_call (by assumption) ?_))); have hO3 := hid (HO.out.call hb3); clear hb3; obtain ⟨⟨d0, d1, d2, d3⟩, d4, d5, d6, d7⟩ := hO3.out)
    | (go_at_call 96; refine (HH4.out _).mono ?_; rintro e w4 ⟨rfl, hb4⟩; have hB4 := hid (b_call hb4 hB3.out); have hO4 := hid (hO3.out.call hb4); clear hb4 d0 d1 d2 d3 d4 d5 d6 d7; obtain ⟨⟨d0, d1, d2, d3⟩, d4, d5, d6, d7⟩ := hO4.out)
    | (go_at_call 94; refine (HH5.out _).mono ?_; rintro e w5 ⟨rfl, hb5⟩; have hB5 := hid (b_call hb5 hB4.out); clear hb5 d0 d1 d2 d3 d4 d5 d6 d7)
    | (go_at_call 53; refine (HH6.out _).mono ?_; rintro e w' ⟨rfl, rfl⟩)))
            go_ret; exact fin (by simp [ovRes, ha, hb, hc]) hB5.out
        · have h0 : (er != 0) = true := by simpa using hd
          (go_wp2_with (first
    | (go_at_call 57; refine (HH1.out _).mono ?_; rintro e w' ⟨rfl, rfl⟩; clear HH1)
    | (go_at_call 57; refine (HH2.out _).mono ?_; rintro e w' ⟨rfl, rfl⟩)
    | (go_at_call 96; refine (HH3.out _).mono ?_; clear HH3; rintro e w3 ⟨rfl, hb3⟩; have hB3 := hid (show Below w.heap.size w w3 by (repeat (first | assumption | exact Below.refl _ _ | refine b_alloc ?_ _ | refine Below.drew ?_ | refine b_drewN ?_ _ | refine Below.setCell ?_ (by first | omega | (simp; done) | (simp; omega)) _ | refine b_call (by assumption) ?_))); have hO3 := hid (HO.out.call hb3); clear hb3; obtain ⟨⟨d0, d1, d2, d3⟩, d4, d5, d6, d7⟩ := hO3.out)
    | (go_at_call 96; refine (HH4.out _).mono ?_; rintro e w4 ⟨rfl, hb4⟩; have hB4 := hid (b_call hb4 hB3.out); have hO4 := hid (hO3.out.call hb4); clear hb4 d0 d1 d2 d3 d4 d5 d6 d7; obtain ⟨⟨d0, d1, d2, d3⟩, d4, d5, d6, d7⟩ := hO4.out)
    | (go_at_call 94; refine (HH5.out _).mono ?_; rintro e w5 ⟨rfl, hb5⟩; have hB5 := hid (b_call hb5 hB4.out); clear hb5 d0 d1 d2 d3 d4 d5 d6 d7)
    | (go_at_call 53; refine (HH6.out _).mono ?_; rintro e w' ⟨rfl, rfl⟩)))
          go_ret; exact fin (by simp [ovRes, ha, hb, hc, hd]) hB5.out
      · (go_wp2_with (first
    | (go_at_call 57; refine (HH1.out _).mono ?_; rintro e w' ⟨rfl, rfl⟩; clear HH1)
    | (go_at_call 57; refine (HH2.out _).mono ?_; rintro e w' ⟨rfl, rfl⟩)
    | (go_at_call 96; refine (HH3.out _).mono ?_; clear HH3; rintro e w3 ⟨rfl, hb3⟩; have hB3 := hid (show Below w.heap.size w w3 by (repeat (first | assumption | exact Below.refl _ _ | refine b_alloc ?_ _ | refine Below.drew ?_ | refine b_drewN ?_ _ | refine Below.setCell ?_ (by first | omega | (simp; done) | (simp; omega)) _ | refine b_call (by assumption) ?_))); have hO3 := hid (HO.out.call hb3); clear hb3; obtain ⟨⟨d0, d1, d2, d3⟩, d4, d5, d6, d7⟩ := hO3.out)
    | (go_at_call 96; refine (HH4.out _).mono ?_; rintro e w4 ⟨rfl, hb4⟩; have hB4 := hid (b_call hb4 hB3.out); have hO4 := hid (hO3.out.call hb4); clear hb4 d0 d1 d2 d3 d4 d5 d6 d7; obtain ⟨⟨d0, d1, d2, d3⟩, d4, d5, d6, d7⟩ := hO4.out)
    | (go_at_call 94; refine (HH5.out _).mono ?_; rintro e w5 ⟨rfl, hb5⟩; have hB5 := hid (b_call hb5 hB4.out); clear hb5 d0 d1 d2 d3 d4 d5 d6 d7)
    | (go_at_call 53; refine (HH6.out _).mono ?_; rintro e w' ⟨rfl, rfl⟩)))
        go_ret; exact fin (by rw [ovRes, if_pos (by simp), if_neg (by omega)]) hB4.out
    · (go_wp2_with (first
    | (go_at_call 57; refine (HH1.out _).mono ?_; rintro e w' ⟨rfl, rfl⟩; clear HH1)
    | (go_at_call 57; refine (HH2.out _).mono ?_; rintro e w' ⟨rfl, rfl⟩)
    | (go_at_call 96; refine (HH3.out _).mono ?_; clear HH3; rintro e w3 ⟨rfl, hb3⟩; have hB3 := hid (show Below w.heap.size w w3 by (repeat (first | assumption | exact Below.refl _ _ | refine b_alloc ?_ _ | refine Below.drew ?_ | refine b_drewN ?_ _ | refine Below.setCell ?_ (by first | omega | (simp; done) | (simp; omega)) _ | refine b_call (by assumption) ?_))); have hO3 := hid (HO.out.call hb3); clear hb3; obtain ⟨⟨d0, d1, d2, d3⟩, d4, d5, d6, d7⟩ := hO3.out)
    | (go_at_call 96; refine (HH4.out _).mono ?_; rintro e w4 ⟨rfl, hb4⟩; have hB4 := hid (b_call hb4 hB3.out); have hO4 := hid (hO3.out.call hb4); clear hb4 d0 d1 d2 d3 d4 d5 d6 d7; obtain ⟨⟨d0, d1, d2, d3⟩, d4, d5, d6, d7⟩ := hO4.out)
    | (go_at_call 94; refine (HH5.out _).mono ?_; rintro e w5 ⟨rfl, hb5⟩; have hB5 := hid (b_call hb5 hB4.out); clear hb5 d0 d1 d2 d3 d4 d5 d6 d7)
    | (go_at_call 53; refine (HH6.out _).mono ?_; rintro e w' ⟨rfl, rfl⟩)))
      go_ret; exact fin (by rw [ovRes, if_pos (by simp), if_neg (by omega)]) hB4.out
  · (go_wp2_with (first
    | (go_at_call 57; refine (HH1.out _).mono ?_; rintro e w' ⟨rfl, rfl⟩; clear HH1)
    | (go_at_call 57; refine (HH2.out _).mono ?_; rintro e w' ⟨rfl, rfl⟩)
    | (go_at_call 96; refine (HH3.out _).mono ?_; clear HH3; rintro e w3 ⟨rfl, hb3⟩; have hB3 := hid (show Below w.heap.size w w3 by (repeat (first | assumption | exact Below.refl _ _ | refine b_alloc ?_ _ | refine Below.drew ?_ | refine b_drewN ?_ _ | refine Below.setCell ?_ (by first | omega | (simp; done) | (simp; omega)) _ | refine b_call (by assumption) ?_))); have hO3 := hid (HO.out.call hb3); clear hb3; obtain ⟨⟨d0, d1, d2, d3⟩, d4, d5, d6, d7⟩ := hO3.out)
    | (go_at_call 96; refine (HH4.out _).mono ?_; rintro e w4 ⟨rfl, hb4⟩; have hB4 := hid (b_call hb4 hB3.out); have hO4 := hid (hO3.out.call hb4); clear hb4 d0 d1 d2 d3 d4 d5 d6 d7; obtain ⟨⟨d0, d1, d2, d3⟩, d4, d5, d6, d7⟩ := hO4.out)
    | (go_at_call 94; refine (HH5.out _).mono ?_; rintro e w5 ⟨rfl, hb5⟩; have hB5 := hid (b_call hb5 hB4.out); clear hb5 d0 d1 d2 d3 d4 d5 d6 d7)
    | (go_at_call 53; refine (HH6.out _).mono ?_; rintro e w' ⟨rfl, rfl⟩)))
    go_ret; exact fin (by rw [ovRes, if_pos (by simp), if_neg (by omega)]) hB4.out

theorem ovenError_any (o : Ov) (s : Int × Int) (m : Int) (w : World) : Calls Try.prog 78 #[o.val, spanV s, .int .i64 m] w (Ret w (.int .i64 (ovErr o s m))) := by
  have h := ovenError_walk o.lo o.hi o.warm.1 o.warm.2 o.cool.1 o.cool.2 s.1 s.2 m (spanErr s) (decide (Temp o.lo)) (decide (Temp o.hi)) (decide (Change o.warm)) (decide (Change o.cool)) (decide (0 ≤ m ∧ m ≤ 200)) (fun W => isTemp_any o.lo W) (fun W => isTemp_any o.hi W) (fun W => isChange_any o.warm W) (fun W => isChange_any o.cool W) (fun W => tempsError_any s W) (fun W => within_any m 0 200 W) w
  have e : ovRes o.lo o.hi o.warm.1 o.warm.2 o.cool.1 o.cool.2 (spanErr s) (decide (Temp o.lo)) (decide (Temp o.hi)) (decide (Change o.warm)) (decide (Change o.cool)) (decide (0 ≤ m ∧ m ≤ 200)) = ovErr o s m := by
    simp only [ovRes, ovErr, decide_eq_true_eq]
  rw [e] at h
  exact h

end Go.Proofs.Ytlocdkjnefmiaaa
