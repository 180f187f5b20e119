/-
  Narrower spans: what they can come to is among what the wider ones can.
-/
import Derived.Test.YtlocdkjnefmiaaaWithinMath
import Derived.Test.YtlocdkjnefmiaaaGSteps
namespace Go.Proofs.Ytlocdkjnefmiaaa
open Go.RowKit
set_option linter.unusedVariables false
set_option linter.unusedSimpArgs false

/-- A span, narrower at both ends. -/
def lessOf (s : Int × Int) (b c : Int) : Int × Int := (s.1 + (s.2 - s.1) * b / 512, s.2 - (s.2 - s.1) * c / 512)
def lessTo (ss : List (Int × Int)) (x : List Int) (k : Nat) : List (Int × Int) := (List.range k).map fun i => lessOf (ss[i]?.getD (0, 0)) (byteAt x i) (byteAt x (i + 1))
theorem lessTo_len (ss : List (Int × Int)) (x : List Int) (k : Nat) : (lessTo ss x k).length = k := by simp [lessTo]
theorem lessTo_succ (ss : List (Int × Int)) (x : List Int) (k : Nat) : lessTo ss x (k + 1) = lessTo ss x k ++ [lessOf (ss[k]?.getD (0, 0)) (byteAt x k) (byteAt x (k + 1))] := by simp [lessTo, List.range_succ]
theorem lessTo_get (ss : List (Int × Int)) (x : List Int) (k i : Nat) (hi : i < k) : (lessTo ss x k)[i]?.getD (0, 0) = lessOf (ss[i]?.getD (0, 0)) (byteAt x i) (byteAt x (i + 1)) := by simp [lessTo, hi]
theorem part_bd {w b : Int} (hw : 0 ≤ w ∧ w ≤ 1500) (hb : 0 ≤ b ∧ b ≤ 255) : 0 ≤ w * b ∧ w * b ≤ 382500 ∧ 0 ≤ w * b / 512 ∧ 2 * (w * b / 512) ≤ w := by
  have h := mul_le_mul_bd hw.1 hw.2 hb.1 hb.2
  have h2 : w * b ≤ w * 255 := Int.mul_le_mul_of_nonneg_left hb.2 hw.1
  omega
theorem less_in {s : Int × Int} (h : spanErr s = 0) {b c : Int} (hb : 0 ≤ b ∧ b ≤ 255) (hc : 0 ≤ c ∧ c ≤ 255) : s.1 ≤ (lessOf s b c).1 ∧ (lessOf s b c).2 ≤ s.2 ∧ spanErr (lessOf s b c) = 0 := by
  obtain ⟨h1, h2, h3⟩ := spanErr_ok h
  obtain ⟨lo, hi⟩ := s
  simp only at h1 h2 h3
  have p1 := part_bd (w := hi - lo) (by omega) hb
  have p2 := part_bd (w := hi - lo) (by omega) hc
  unfold lessOf spanErr Temp
  simp only
  refine ⟨by omega, by omega, ?_⟩
  rw [if_pos (by omega), if_pos (by omega)]
theorem spansErr_of {ss : List (Int × Int)} (h : ∀ k, k < ss.length → spanErr (ss[k]?.getD (0, 0)) = 0) : spansErr ss = 0 := by
  induction ss with
  | nil => rfl
  | cons s r ih =>
    have h0 := h 0 (by simp)
    simp only [List.getElem?_cons_zero, Option.getD_some] at h0
    unfold spansErr
    rw [if_pos h0]
    exact ih fun k hk => by have := h (k + 1) (by simpa using hk); simpa using this
theorem lessTo_ok {ss : List (Int × Int)} {x : List Int} (h : spansErr ss = 0) (hx : bytesOk x) : spansErr (lessTo ss x ss.length) = 0 := by
  refine spansErr_of fun k hk => ?_
  rw [lessTo_len] at hk
  rw [lessTo_get _ _ _ _ hk]
  exact (less_in (spansErr_zero h k hk) (byteAt_bd hx k) (byteAt_bd hx (k + 1))).2.2
theorem within'_mono {l : Ln} {lo lo' : Int} {k k' : Nat} {s : Int} {c : Bool} (h1 : lo ≤ lo') (h2 : lo' + (k' : Int) ≤ lo + (k : Int)) (h : within' l lo' k' s c = true) : within' l lo k s c = true := by
  unfold within' at *
  rw [List.any_eq_true] at *
  obtain ⟨j, hj, hh⟩ := h
  have hj := List.mem_range.1 hj
  refine ⟨(lo' - lo).toNat + j, List.mem_range.2 (by omega), ?_⟩
  rw [show lo + (((lo' - lo).toNat + j : Nat) : Int) = lo' + (j : Int) by omega]
  exact hh
theorem less_within {l : Ln} {s : Int × Int} (h : spanErr s = 0) {b c : Int} (hb : 0 ≤ b ∧ b ≤ 255) (hc : 0 ≤ c ∧ c ≤ 255) {r : Int} {z : Bool} (hw : within' l (lessOf s b c).1 (spanN (lessOf s b c)) r z = true) : within' l s.1 (spanN s) r z = true := by
  obtain ⟨h1, h2, h3⟩ := less_in h hb hc
  have h4 := spanErr_ok h3
  refine within'_mono h1 ?_ hw
  unfold spanN
  have := spanErr_ok h
  omega
theorem less_reach {l : Ln} {ss : List (Int × Int)} {x : List Int} (h : spansErr ss = 0) (hx : bytesOk x) (nb : Nat) : ∀ (k n : Nat), k ≤ ss.length → Reach l (lessTo ss x ss.length) nb k n → Reach l ss nb k n
  | 0, n, _, hr => hr
  | k + 1, n, hk, hr => by
    obtain ⟨s, m, h1, h2, h3⟩ := hr
    rw [lessTo_get _ _ _ _ (by omega)] at h1
    exact ⟨s, m, less_within (spansErr_zero h k (by omega)) (byteAt_bd hx k) (byteAt_bd hx (k + 1)) h1, less_reach h hx nb k m (by omega) h2, h3⟩
theorem less_lost {l : Ln} {ss : List (Int × Int)} {x : List Int} (h : spansErr ss = 0) (hx : bytesOk x) (hl : lostTo l (lessTo ss x ss.length) ss.length = true) : lostTo l ss ss.length = true := by
  unfold lostTo at *
  rw [List.any_eq_true] at *
  obtain ⟨j, hj, hh⟩ := hl
  have hj' := List.mem_range.1 hj
  rw [lessTo_get _ _ _ _ hj'] at hh
  exact ⟨j, hj, less_within (spansErr_zero h j hj') (byteAt_bd hx j) (byteAt_bd hx (j + 1)) hh⟩

/-- Spans, as cells. -/
def cellsS (xs : List (Int × Int)) : List Value := xs.flatMap fun c : Int × Int => [Value.int .i64 c.1, .int .i64 c.2]
theorem cellsS_snoc (xs : List (Int × Int)) (c : Int × Int) : cellsS (xs ++ [c]) = cellsS xs ++ [Value.int .i64 c.1, .int .i64 c.2] := by simp [cellsS]
theorem cellsS_get : ∀ (xs : List (Int × Int)) (j : Nat) (hj : j < xs.length), (cellsS xs)[j * 2]? = some (.int .i64 xs[j].1) ∧ (cellsS xs)[j * 2 + 1]? = some (.int .i64 xs[j].2)
  | c :: cs, 0, _ => by simp [cellsS]
  | c :: cs, j + 1, hj => by
    have := cellsS_get cs j (by simpa using hj)
    rw [show (j + 1) * 2 = j * 2 + 2 by omega, show j * 2 + 2 + 1 = (j * 2 + 1) + 2 by omega]
    simpa [cellsS] using this
theorem Try.infoS : (Try.prog.info? 31).map (fun i => (i.zero, i.size, i.bytes)) = some (some (.agg #[.int .i64 0, .int .i64 0]), 2, 16) := by kernel_rfl
theorem rowSpans {W : World} {base : Nat} {v : Value} {ss : List (Int × Int)} (h : W.ownsRow base 31 2 v ss.length (cellsS ss)) : ∃ a c, v = .slice a ss.length c ∧ SpansAt W a ss := by
  rcases h.2 with ⟨e, e2⟩ | ⟨g, cap, cur, e, r⟩
  · have hx : ss = [] := List.eq_nil_of_length_eq_zero e2
    subst hx
    exact ⟨none, 0, e, fun j hj => by simp at hj⟩
  · subst e
    refine ⟨_, cap, rfl, fun j hj => ⟨g, 0, rfl, ?_, ?_⟩⟩
    · rw [Nat.zero_add]
      exact (h.cellAt (j * 2) (by omega)).trans ((cellsS_get ss j hj).1.trans (by simp [hj]))
    · rw [Nat.zero_add]
      exact (h.cellAt (j * 2 + 1) (by omega)).trans ((cellsS_get ss j hj).2.trans (by simp [hj]))
end Go.Proofs.Ytlocdkjnefmiaaa
