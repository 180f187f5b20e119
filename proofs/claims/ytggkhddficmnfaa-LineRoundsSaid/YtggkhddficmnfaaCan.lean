/-
  tempsError, canError, Can.
-/
import Derived.Test.YtggkhddficmnfaaLaterBy
namespace Go.Proofs.Ytggkhddficmnfaa
open Go.RowKit
set_option linter.unusedVariables false
set_option linter.unusedSimpArgs false

abbrev spanV (s : Int × Int) : Value := .agg #[.int .i64 s.1, .int .i64 s.2]
/-- The error of a span of temperatures. -/
def spanErr (s : Int × Int) : Int := if Temp s.1 ∧ Temp s.2 then (if s.1 ≤ s.2 then 0 else 2) else 7

set_option maxHeartbeats 1000000 in
theorem tempsError_any (s : Int × Int) (w : World) : Calls Try.prog 94 #[spanV s] w (Ret w (.int .i64 (spanErr s))) := by
  obtain ⟨lo, hi⟩ := s
  go_enter Try.func94, Try.ntmps94
  go_wp2_with (go_at_call 57; refine (isTemp_any _ _).mono ?_; rintro e w1 ⟨rfl, rfl⟩)
  all_goals
    go_ret
    refine ⟨?_, by (repeat (first | assumption | exact Below.refl _ _ | refine b_alloc ?_ _ | refine Below.drew ?_ | refine b_drewN ?_ _ | refine Below.setCell ?_ (by first | omega | (simp; done) | (simp; omega)) _ | refine b_call (by assumption) ?_))⟩
    show Ending.returned (.int .i64 _) = _
    simp_all [spanErr, Temp]
    try omega

/-- The slice that begins at a holds the spans ss. -/
def SpansAt (W : World) (a : Option Addr) (ss : List (Int × Int)) : Prop :=
  ∀ j, j < ss.length → ∃ b off, a = some ⟨b, off, none⟩ ∧ W.cell? ⟨b, off + j * 2, none⟩ = some (.int .i64 (ss[j]?.getD (0, 0)).1) ∧ W.cell? ⟨b, off + j * 2 + 1, none⟩ = some (.int .i64 (ss[j]?.getD (0, 0)).2)
theorem SpansAt.below {W W' : World} {a : Option Addr} {ss : List (Int × Int)} (h : SpansAt W a ss) (hb : Below W.heap.size W W') : SpansAt W' a ss := fun j hj => by
  obtain ⟨b, off, e, h1, h2⟩ := h j hj
  exact ⟨b, off, e, cell_later hb h1, cell_later hb h2⟩
/-- The first error of spans. -/
def spansErr : List (Int × Int) → Int
  | [] => 0
  | s :: r => if spanErr s = 0 then spansErr r else spanErr s
def canErr (l : Ln) (ss : List (Int × Int)) : Int := if l.Ok then (if ss.length ≤ 60 then spansErr ss else 3) else 7
theorem spansErr_drop {ss : List (Int × Int)} {k : Nat} (hk : k < ss.length) : spansErr (ss.drop k) = if spanErr (ss[k]?.getD (0, 0)) = 0 then spansErr (ss.drop (k + 1)) else spanErr (ss[k]?.getD (0, 0)) := by
  rw [List.drop_eq_getElem_cons hk, spansErr]; simp [hk]

set_option maxRecDepth 100000 in
set_option maxHeartbeats 1000000 in
theorem canError_ok (l : Ln) (h : l.Ok) (a : Option Addr) (ca : Nat) (ss : List (Int × Int)) (hlt : ss.length ≤ 60) (w : World) (hx : SpansAt w a ss) :
    Calls Try.prog 69 #[l.val, .slice a ss.length ca] w (Ret w (.int .i64 (spansErr ss))) := by
  have HX := hid hx
  clear hx
  have hl2 : ¬ (60 : Int) < (ss.length : Int) := by omega
  go_enter Try.func69, Try.ntmps69
  go_wp2_with (go_at_call 25; refine (Check_ok l h _).mono ?_; rintro e w1 ⟨rfl, hb1⟩; have hB1 := hid (show Below w.heap.size w w1 by (repeat (first | assumption | exact Below.refl _ _ | refine b_alloc ?_ _ | refine Below.drew ?_ | refine b_drewN ?_ _ | refine Below.setCell ?_ (by first | omega | (simp; done) | (simp; omega)) _ | refine b_call (by assumption) ?_))); clear hb1)
  go_loopw [19] (fun i wr => ∃ k : Nat, k ≤ ss.length ∧ i = .int .i64 k ∧ spansErr (ss.drop k) = spansErr ss ∧ Below w.heap.size w wr) (fun i _ => ss.length - (intOf i).toNat)
  case atStart => exact ⟨0, Nat.zero_le _, rfl, rfl, hB1.out⟩
  case round =>
    obtain ⟨k, hk, rfl, hd, hbr⟩ := hrel
    have HD := hid hd
    clear hd
    by_cases hlt : k < ss.length
    · obtain ⟨b, off, rfl, hc1, hc2⟩ := (HX.out.below hbr) k hlt
      obtain ⟨s, hs⟩ : ∃ s, ss[k]?.getD (0, 0) = s := ⟨_, rfl⟩
      have hdr := spansErr_drop hlt
      rw [HD.out, hs] at hdr
      rw [hs] at hc1 hc2
      obtain ⟨lo, hi⟩ := s
      have HS := hid hs
      have HDR := hid hdr
      clear hs hdr
      obtain ⟨er, her⟩ : ∃ er, spanErr (lo, hi) = er := ⟨_, rfl⟩
      have HER := hid her
      clear her
      by_cases h0 : er = 0
      · subst h0
        go_wp2_with (go_at_call 94; refine (tempsError_any (lo, hi) _).mono ?_; rintro e w3 ⟨rfl, hb3⟩; rw [HER.out]; have HB3 := hid hb3; clear hb3)
        refine ⟨⟨k + 1, by omega, by go_num, ?_, b_call HB3.out (b_alloc hbr _)⟩, by simp [intOf]; omega⟩
        have := HDR.out; rw [HER.out, if_pos rfl] at this; exact this.symm
      · have h0' : (er != 0) = true := by simpa using h0
        go_wp2_with (go_at_call 94; refine (tempsError_any (lo, hi) _).mono ?_; rintro e w3 ⟨rfl, hb3⟩; rw [HER.out]; have HB3 := hid hb3; clear hb3)
        go_ret
        refine ⟨?_, b_call HB3.out (b_alloc hbr _)⟩
        have := HDR.out; rw [HER.out, if_neg h0] at this; rw [this]; rfl
    · obtain rfl : k = ss.length := by omega
      go_wp2
      go_ret
      exact ⟨by rw [← HD.out, List.drop_length]; rfl, hbr⟩

set_option maxHeartbeats 1000000 in
theorem canError_any (l : Ln) (a : Option Addr) (ca : Nat) (ss : List (Int × Int)) (hn : Len ss.length) (w : World) (hx : SpansAt w a ss) :
    Calls Try.prog 69 #[l.val, .slice a ss.length ca] w (Ret w (.int .i64 (canErr l ss))) := by
  unfold canErr
  by_cases h : l.Ok
  · rw [if_pos h]
    by_cases hlt : ss.length ≤ 60
    · rw [if_pos hlt]; exact canError_ok l h a ca ss hlt w hx
    · rw [if_neg hlt]
      have hl2 : (60 : Int) < (ss.length : Int) := by omega
      go_enter Try.func69, Try.ntmps69
      go_wp2_with (go_at_call 25; refine (Check_ok l h _).mono ?_; rintro e w1 ⟨rfl, hb1⟩; have hB1 := hid (show Below w.heap.size w w1 by (repeat (first | assumption | exact Below.refl _ _ | refine b_alloc ?_ _ | refine Below.drew ?_ | refine b_drewN ?_ _ | refine Below.setCell ?_ (by first | omega | (simp; done) | (simp; omega)) _ | refine b_call (by assumption) ?_))); clear hb1)
      go_ret
      exact ⟨rfl, by (repeat (first | assumption | exact Below.refl _ _ | refine b_alloc ?_ _ | refine Below.drew ?_ | refine b_drewN ?_ _ | refine Below.setCell ?_ (by first | omega | (simp; done) | (simp; omega)) _ | refine b_call (by assumption) ?_))⟩
  · rw [if_neg h]
    go_enter Try.func69, Try.ntmps69
    go_wp2_with (go_at_call 25; refine (Check_no l h _).mono ?_; rintro e w1 ⟨rfl, hb1⟩; have hB1 := hid (show Below w.heap.size w w1 by (repeat (first | assumption | exact Below.refl _ _ | refine b_alloc ?_ _ | refine Below.drew ?_ | refine b_drewN ?_ _ | refine Below.setCell ?_ (by first | omega | (simp; done) | (simp; omega)) _ | refine b_call (by assumption) ?_))); clear hb1)
    go_ret
    exact ⟨rfl, by (repeat (first | assumption | exact Below.refl _ _ | refine b_alloc ?_ _ | refine Below.drew ?_ | refine b_drewN ?_ _ | refine Below.setCell ?_ (by first | omega | (simp; done) | (simp; omega)) _ | refine b_call (by assumption) ?_))⟩
end Go.Proofs.Ytggkhddficmnfaa
