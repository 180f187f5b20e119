/-
  The reference's Safe.
-/
import Derived.Test.YtggkhddficmnfaaSafe
import Derived.Test.YtggkhddficmnfaaNext
namespace Go.Proofs.Ytggkhddficmnfaa
open Go.RowKit
set_option linter.unusedVariables false
set_option linter.unusedSimpArgs false

theorem ends_lt (v : Int) : ∀ (xs : List Int) (s : Int × Int × Bool), (s.2.2 = true → s.1 < v ∧ s.2.1 < v) → (∀ x ∈ xs, x < v) → ((xs.foldl endsStep s).2.2 = true → (xs.foldl endsStep s).1 < v ∧ (xs.foldl endsStep s).2.1 < v)
  | [], s, h, _ => h
  | x :: xs, s, h, hx => by
    refine ends_lt v xs (endsStep s x) (fun _ => ?_) (fun y hy => hx y (by simp [hy]))
    have h1 := hx x (by simp)
    unfold endsStep
    by_cases e : s.2.2 = true
    · have := h e
      rw [if_pos e]
      constructor <;> simp only <;> split <;> omega
    · rw [if_neg e]; exact ⟨h1, h1⟩
theorem safeTo_lt (l : Ln) (k : Nat) : ∀ x ∈ safeTo l k, x < -500 + (k : Int) := by
  intro x hx
  unfold safeTo at hx
  obtain ⟨hx, _⟩ := List.mem_filter.1 hx
  obtain ⟨j, hj, rfl⟩ := List.mem_map.1 hx
  have := List.mem_range.1 hj
  omega
/-- The span so far. -/
def rsTo (l : Ln) (k : Nat) : Int × Int := if (endsOf (safeTo l k)).2.2 then ((endsOf (safeTo l k)).1, (endsOf (safeTo l k)).2.1) else (1001, -501)
theorem rsTo_no (l : Ln) (k : Nat) (h : ¬ l.safe (-500 + k)) : rsTo l (k + 1) = rsTo l k := by unfold rsTo; rw [safeTo_no l k h]
theorem rsTo_yes (l : Ln) (k : Nat) (h : l.safe (-500 + k)) (hk : k < 1501) : rsTo l (k + 1) = (if (rsTo l k).1 ≤ -500 + (k : Int) then (rsTo l k).1 else -500 + (k : Int), -500 + (k : Int)) := by
  have hlt : (endsOf (safeTo l k)).2.2 = true → (endsOf (safeTo l k)).1 < -500 + (k : Int) ∧ (endsOf (safeTo l k)).2.1 < -500 + (k : Int) :=
    ends_lt (-500 + (k : Int)) (safeTo l k) (0, 0, false) (fun e => by cases e) (safeTo_lt l k)
  unfold rsTo
  rw [safeTo_yes l k h, endsOf_snoc]
  generalize hz : endsOf (safeTo l k) = z at *
  obtain ⟨a, b, f⟩ := z
  cases f with
  | false => simp [endsStep]; omega
  | true =>
    have h2 := hlt rfl
    simp only at h2
    have h3 := h2.1
    have h4 := h2.2
    simp [endsStep]
    omega

theorem ends_le : ∀ (xs : List Int) (s : Int × Int × Bool), (s.2.2 = true → s.1 ≤ s.2.1) → ((xs.foldl endsStep s).2.2 = true → (xs.foldl endsStep s).1 ≤ (xs.foldl endsStep s).2.1)
  | [], s, h => h
  | x :: xs, s, h => by
    refine ends_le xs (endsStep s x) (fun _ => ?_)
    unfold endsStep
    by_cases e : s.2.2 = true
    · have := h e
      rw [if_pos e]
      simp only
      split <;> split <;> omega
    · rw [if_neg e]; exact Int.le_refl _
theorem rsTo_end (l : Ln) : ((rsTo l 1501).1 = 1001 ∧ (rsTo l 1501).2 = -501 ∧ l.ends.2.2 = false) ∨ ((rsTo l 1501).1 ≤ (rsTo l 1501).2 ∧ l.ends = ((rsTo l 1501).1, (rsTo l 1501).2, true)) := by
  have h := ends_le (safeTo l 1501) (0, 0, false) (fun e => by cases e)
  unfold rsTo Ln.ends endsOf
  generalize (safeTo l 1501).foldl endsStep (0, 0, false) = z at *
  obtain ⟨a, b, f⟩ := z
  cases f with
  | false => left; simp
  | true => right; simpa using h rfl
theorem lnAt_set {W : World} {s B o : Nat} {l : Ln} (h : LnAt s l W) (hne : s ≠ B) (v : Value) : LnAt s l (W.setCell ⟨B, o, none⟩ v) := by
  obtain ⟨a0, a1, a2, a3, a4, a5⟩ := h
  exact ⟨(World.cell?_setCell_other W ⟨B, o, none⟩ ⟨s, 0, none⟩ v (by first | (simp; done) | (simp; omega))).trans a0, (World.cell?_setCell_other W ⟨B, o, none⟩ ⟨s, 1, none⟩ v (by first | (simp; done) | (simp; omega))).trans a1, (World.cell?_setCell_other W ⟨B, o, none⟩ ⟨s, 2, none⟩ v (by first | (simp; done) | (simp; omega))).trans a2, (World.cell?_setCell_other W ⟨B, o, none⟩ ⟨s, 3, none⟩ v (by first | (simp; done) | (simp; omega))).trans a3, (World.cell?_setCell_other W ⟨B, o, none⟩ ⟨s, 4, none⟩ v (by first | (simp; done) | (simp; omega))).trans a4, (World.cell?_setCell_other W ⟨B, o, none⟩ ⟨s, 5, none⟩ v (by first | (simp; done) | (simp; omega))).trans a5⟩
theorem Cel.other {W : World} {b B o o' : Nat} {v u : Value} (h : Cel W b o v) (hne : b ≠ B) : Cel (W.setCell ⟨B, o', none⟩ u) b o v :=
  ⟨(World.cell?_setCell_other W ⟨B, o', none⟩ ⟨b, o, none⟩ u (by first | (simp; done) | (simp; omega))).trans h.1, by rw [World.frozen?_setCell]; exact h.2⟩
theorem Cel.set0 {W : World} {b : Nat} {v : Value} (h : Cel W b 0 v) (u : Value) : Cel (W.setCell ⟨b, 0, none⟩ u) b 0 u :=
  ⟨World.cell?_setCell_same' W ⟨b, 0, none⟩ u (by rw [h.1]; rfl), by rw [World.frozen?_setCell]; exact h.2⟩
theorem Cel.set1 {W : World} {b : Nat} {u v : Value} (h : Cel W b 0 u) : Cel (W.setCell ⟨b, 1, none⟩ v) b 0 u :=
  ⟨(World.cell?_setCell_other W ⟨b, 1, none⟩ ⟨b, 0, none⟩ v (by simp)).trans h.1, by rw [World.frozen?_setCell]; exact h.2⟩
theorem Cel.set1' {W : World} {b : Nat} {u : Value} (h : Cel W b 1 u) (x y : Value) : Cel ((W.setCell ⟨b, 0, none⟩ x).setCell ⟨b, 1, none⟩ y) b 1 y :=
  ⟨World.cell?_setCell_same' (W.setCell ⟨b, 0, none⟩ x) ⟨b, 1, none⟩ y (by rw [World.cell?_setCell_other W ⟨b, 0, none⟩ ⟨b, 1, none⟩ x (by simp), h.1]; rfl), by rw [World.frozen?_setCell, World.frozen?_setCell]; exact h.2⟩
set_option maxRecDepth 100000 in
set_option maxHeartbeats 2000000 in
theorem refSafe_ok (l : Ln) (h : l.Ok) (w : World) : Calls Try.prog 28 #[l.val] w (Ret w l.safeV) := by
  have hL0 := hid (lnAt_call (lnAt_new' l w) (b_alloc (Below.refl _ _) (.cells #[.int .i64 0, .int .i64 0] 31)))
  have k0 := Cel.new (w.alloc (.cells #[.int .i64 l.W, .int .i64 l.B, .int .i64 l.P, .int .i64 l.D, .int .i64 l.S, .int .i64 l.N] 25)) #[.int .i64 0, .int .i64 0] 31 0 _ rfl
  have k1 := Cel.new (w.alloc (.cells #[.int .i64 l.W, .int .i64 l.B, .int .i64 l.P, .int .i64 l.D, .int .i64 l.S, .int .i64 l.N] 25)) #[.int .i64 0, .int .i64 0] 31 1 _ rfl
  simp only [World.size_alloc] at k0 k1
  have K0 := hid k0
  have K1 := hid k1
  clear k0 k1
  go_enter Try.func28, Try.ntmps28
  go_wp2_with (go_at_call 26; refine (refCheck_ok l h _).mono ?_; rintro e w1 ⟨rfl, hb1⟩; have HB1 := hid (show Below w.heap.size w w1 by (repeat (first | assumption | exact Below.refl _ _ | refine b_alloc ?_ _ | refine Below.drew ?_ | refine b_drewN ?_ _ | refine Below.setCell ?_ (by first | omega | (simp; done) | (simp; omega)) _ | refine b_call (by assumption) ?_))); have hL1 := hid (lnAt_call hL0.out hb1); replace K0 := hid (K0.out.call hb1); replace K1 := hid (K1.out.call hb1); have HK1 := hid (show w.heap.size + 1 < w1.heap.size from K1.out.lt); clear hb1)
  obtain ⟨B, hB⟩ : ∃ B, w1.heap.size = B := ⟨_, rfl⟩
  have q0 := Cel.new w1 #[.int .i64 1001, .int .i64 (-501)] 31 0 _ rfl
  have q1 := Cel.new w1 #[.int .i64 1001, .int .i64 (-501)] 31 1 _ rfl
  have hl2 := lnAt_call hL1.out (b_alloc (Below.refl _ _) (.cells #[.int .i64 1001, .int .i64 (-501)] 31))
  have hb2 := b_alloc HB1.out (.cells #[.int .i64 1001, .int .i64 (-501)] 31)
  replace K0 := hid (K0.out.alloc (.cells #[.int .i64 1001, .int .i64 (-501)] 31))
  replace K1 := hid (K1.out.alloc (.cells #[.int .i64 1001, .int .i64 (-501)] 31))
  have hBs : w.heap.size + 1 < B := by rw [← hB]; exact HK1.out
  rw [hB] at q0 q1 ⊢
  have HK0 := hid K0.out
  go_loopw [6] (fun t wr => ∃ k : Nat, k ≤ 1501 ∧ t = .int .i64 (-500 + (k : Int)) ∧ LnAt w.heap.size l wr ∧ Cel wr B 0 (.int .i64 (rsTo l k).1) ∧ Cel wr B 1 (.int .i64 (rsTo l k).2) ∧ (Cel wr (w.heap.size + 1) 0 (.int .i64 0) ∧ Cel wr (w.heap.size + 1) 1 (.int .i64 0)) ∧ Below w.heap.size w wr) (fun t _ => (1001 - intOf t).toNat)
  case atStart => exact ⟨0, by omega, by simp, hl2, q0, q1, ⟨K0.out, K1.out⟩, hb2⟩
  case round =>
    obtain ⟨k, hk, rfl, hln, hc0, hc1, hr, hbr⟩ := hrel
    have HLN := hid hln
    have HC0 := hid hc0
    have HC1 := hid hc1
    have HR := hid hr
    have HBR := hid hbr
    obtain ⟨d0, d1, d2, d3, d4, d5⟩ := hln
    by_cases hlt : k < 1501
    · have hT : Temp (-500 + (k : Int)) := by unfold Temp; omega
      have hsf := fun W => refsafe_any l h (-500 + (k : Int)) hT W
      by_cases hs : l.safe (-500 + (k : Int))
      · have HRS := hid (rsTo_yes l k hs hlt)
        rw [decide_eq_true hs] at hsf
        have HSF := hid hsf
        clear hsf hs hc0 hc1 hr hbr q0 q1 hl2 hb2
        obtain ⟨⟨a, b⟩, hab⟩ : ∃ z, rsTo l k = z := ⟨_, rfl⟩
        rw [hab] at HC0 HC1 HRS
        clear hab
        simp only at HC0 HC1 HRS
        by_cases hle : a ≤ -500 + (k : Int)
        all_goals
          go_wp2_with (go_at_call 62; refine (HSF.out _).mono ?_; rintro e w4 ⟨rfl, hb4⟩; have HB4 := hid (b_call hb4 HBR.out); have HL4 := hid (lnAt_call HLN.out hb4); have HD0 := hid (HC0.out.call hb4); have HD1 := hid (HC1.out.call hb4); have HR4 := hid (And.intro (HR.out.1.call hb4) (HR.out.2.call hb4)); clear d0 d1 d2 d3 d4 d5 hb4; obtain ⟨e0, f0⟩ := HD0.out; obtain ⟨e1, f1⟩ := HD1.out)
          refine ⟨⟨k + 1, by omega, by go_num, lnAt_set (lnAt_set HL4.out (by omega) _) (by omega) _, ?_, ?_, ⟨(HR4.out.1.other (by omega)).other (by omega), (HR4.out.2.other (by omega)).other (by omega)⟩, (HB4.out.setCell (p := ⟨B, 0, none⟩) (by simp; omega) _).setCell (p := ⟨B, 1, none⟩) (by simp; omega) _⟩, by simp [intOf]; omega⟩
          · rw [HRS.out]; first | (rw [if_pos hle]; exact (Cel.set0 HD0.out _).set1) | (rw [if_neg (by omega)]; exact (Cel.set0 HD0.out _).set1)
          · rw [HRS.out]; exact Cel.set1' HD1.out _ _
      · have HRS := hid (rsTo_no l k hs)
        rw [decide_eq_false hs] at hsf
        have HSF := hid hsf
        clear hsf hs
        go_wp2_with (go_at_call 62; refine (HSF.out _).mono ?_; rintro e w4 ⟨rfl, hb4⟩; have HB4 := hid (b_call hb4 HBR.out); have HL4 := hid (lnAt_call HLN.out hb4); have HD0 := hid (HC0.out.call hb4); have HD1 := hid (HC1.out.call hb4); have HR4 := hid (And.intro (HR.out.1.call hb4) (HR.out.2.call hb4)); clear hb4)
        go_roundw
        case rel => exact ⟨k + 1, by omega, by go_num, HL4.out, by rw [HRS.out]; exact HD0.out, by rw [HRS.out]; exact HD1.out, HR4.out, HB4.out⟩
        case measure => simp [intOf]; omega
    · obtain rfl : k = 1501 := by omega
      clear hl2 hb2 q0 q1
      have HES := hid (rsTo_end l)
      obtain ⟨⟨a, b⟩, hab⟩ : ∃ z, rsTo l 1501 = z := ⟨_, rfl⟩
      rw [hab] at hc0 hc1 HES
      simp only at hc0 hc1 HES
      obtain ⟨c0, c1⟩ := hc0
      obtain ⟨c2, c3⟩ := hc1
      obtain ⟨⟨r0, r1⟩, r2, r3⟩ := hr
      rcases HES.out with ⟨rfl, rfl, hv⟩ | ⟨hle, hv⟩
      · have HV := hid hv
        clear hv hab
        have q4 := (World.cell?_setCell_other wr ⟨w.heap.size + 1, 0, none⟩ ⟨w.heap.size + 1, 1, none⟩ (.int .i64 (0)) (by simp)).trans r2
        go_wp2
        have z0 := (World.cell?_setCell_other (wr.setCell ⟨w.heap.size + 1, 0, none⟩ (.int .i64 (0))) ⟨w.heap.size + 1, 1, none⟩ ⟨w.heap.size + 1, 0, none⟩ (.int .i64 (0)) (by simp)).trans (World.cell?_setCell_same' wr ⟨w.heap.size + 1, 0, none⟩ (.int .i64 (0)) (by rw [r0]; rfl))
        have z1 := World.cell?_setCell_same' (wr.setCell ⟨w.heap.size + 1, 0, none⟩ (.int .i64 (0))) ⟨w.heap.size + 1, 1, none⟩ (.int .i64 (0)) (by rw [q4]; rfl)
        have hbf := (HBR.out.setCell (p := ⟨w.heap.size + 1, 0, none⟩) (by simp) (.int .i64 (0))).setCell (p := ⟨w.heap.size + 1, 1, none⟩) (by simp) (.int .i64 (0))
        generalize World.setCell (World.setCell wr ⟨w.heap.size + 1, 0, none⟩ (.int .i64 (0))) ⟨w.heap.size + 1, 1, none⟩ (.int .i64 (0)) = WF at *
        have e : l.safeV = .tuple #[.agg #[.int .i64 (0), .int .i64 (0)], .int .i64 9] := by unfold Ln.safeV; rw [if_pos h]; rw [HV.out]; rfl
        refine bodyPost_ret (v := .tuple #[.agg #[.int .i64 (0), .int .i64 (0)], .int .i64 9]) ?_ rfl ⟨by rw [e], hbf⟩
        simp [results, Try.results28, go_sem, z0, z1]
      · have HV := hid hv
        have hle2 : decide (b < a) = false := by simp; omega
        clear hv hab
        have q4 := (World.cell?_setCell_other wr ⟨w.heap.size + 1, 0, none⟩ ⟨w.heap.size + 1, 1, none⟩ (.int .i64 (a)) (by simp)).trans r2
        go_wp2
        have z0 := (World.cell?_setCell_other (wr.setCell ⟨w.heap.size + 1, 0, none⟩ (.int .i64 (a))) ⟨w.heap.size + 1, 1, none⟩ ⟨w.heap.size + 1, 0, none⟩ (.int .i64 (b)) (by simp)).trans (World.cell?_setCell_same' wr ⟨w.heap.size + 1, 0, none⟩ (.int .i64 (a)) (by rw [r0]; rfl))
        have z1 := World.cell?_setCell_same' (wr.setCell ⟨w.heap.size + 1, 0, none⟩ (.int .i64 (a))) ⟨w.heap.size + 1, 1, none⟩ (.int .i64 (b)) (by rw [q4]; rfl)
        have hbf := (HBR.out.setCell (p := ⟨w.heap.size + 1, 0, none⟩) (by simp) (.int .i64 (a))).setCell (p := ⟨w.heap.size + 1, 1, none⟩) (by simp) (.int .i64 (b))
        generalize World.setCell (World.setCell wr ⟨w.heap.size + 1, 0, none⟩ (.int .i64 (a))) ⟨w.heap.size + 1, 1, none⟩ (.int .i64 (b)) = WF at *
        have e : l.safeV = .tuple #[.agg #[.int .i64 (a), .int .i64 (b)], .int .i64 0] := by unfold Ln.safeV; rw [if_pos h]; rw [HV.out]; rfl
        refine bodyPost_ret (v := .tuple #[.agg #[.int .i64 (a), .int .i64 (b)], .int .i64 0]) ?_ rfl ⟨by rw [e], hbf⟩
        simp [results, Try.results28, go_sem, z0, z1]

theorem refSafe_any (l : Ln) (w : World) : Calls Try.prog 28 #[l.val] w (Ret w l.safeV) := by
  by_cases h : l.Ok
  · exact refSafe_ok l h w
  · unfold Ln.safeV
    rw [if_neg h]
    go_enter Try.func28, Try.ntmps28
    go_wp2_with (go_at_call 26; refine (refCheck_no l h _).mono ?_; rintro e w1 ⟨rfl, hb1⟩; obtain ⟨hc1, hf1⟩ := bcell hb1)
    refine bodyPost_ret (v := .tuple #[.agg #[.int .i64 0, .int .i64 0], .int .i64 7]) (by simp [results, Try.results28, go_sem, hc1]) rfl ⟨rfl, by (repeat (first | assumption | exact Below.refl _ _ | refine b_alloc ?_ _ | refine Below.drew ?_ | refine b_drewN ?_ _ | refine Below.setCell ?_ (by first | omega | (simp; done) | (simp; omega)) _ | refine b_call (by assumption) ?_))⟩
end Go.Proofs.Ytggkhddficmnfaa
