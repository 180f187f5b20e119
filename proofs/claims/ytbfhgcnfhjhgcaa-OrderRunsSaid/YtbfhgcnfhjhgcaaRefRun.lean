/-
  The reference's asked, Run.
-/
import Derived.Test.YtbfhgcnfhjhgcaaRefCheck
import Derived.Test.YtbfhgcnfhjhgcaaGRun
import Derived.Test.YtbfhgcnfhjhgcaaGSt
namespace Go.Proofs.Ytbfhgcnfhjhgcaa
open Go.RowKit
set_option linter.unusedVariables false
set_option linter.unusedSimpArgs false

set_option maxRecDepth 100000 in
set_option maxHeartbeats 4000000 in
theorem asked_any (q : Sl) (s : St) (hl : StLen s) (most : Int) (w : World) (hx : StAt w q s) : Calls Try.prog 62 #[stVal q s, .int .i64 most] w (Ret w (.int .i64 (askErr s most))) := by
  have B0 := hid (Blk.new w (stCells q s) 37)
  have HX := hid hx
  obtain ⟨⟨x0, x1, x2, x3⟩, x4, x5, x6, x7⟩ := stBlk B0.out
  have hck := fun W g => refCheck_any q s hl W g
  have hin := fun W => in_any most 0 5000 W
  unfold askErr
  generalize (chk s).1 = r1 at *
  generalize (chk s).2.1 = r2 at *
  clear hx
  by_cases h1 : (chk s).2.2 = 0
  · rw [if_pos h1]
    rw [h1] at hck
    have HCK := hid hck
    clear hck h1
    by_cases h2 : 0 ≤ most ∧ most ≤ 5000
    · rw [if_pos h2]
      rw [decide_eq_true h2] at hin
      have HIN := hid hin
      clear hin h2
      go_enter Try.func62, Try.ntmps62
      go_wp2_with (first
        | (go_at_call 27; refine (HCK.out _ (HX.out.below (by have hq := Below.refl w.heap.size w; (repeat (first | assumption | exact Below.refl _ _ | refine b_alloc ?_ _ | refine Below.drew ?_ | refine b_drewN ?_ _ | refine Below.setCell ?_ (by first | omega | (simp; done) | (simp; omega)) _ | refine b_call (by assumption) ?_))))).mono ?_; rintro e w1 ⟨rfl, hb1⟩; have HB1 := hid (show Below w.heap.size w w1 from b_call hb1 (by have hq := Below.refl w.heap.size w; (repeat (first | assumption | exact Below.refl _ _ | refine b_alloc ?_ _ | refine Below.drew ?_ | refine b_drewN ?_ _ | refine Below.setCell ?_ (by first | omega | (simp; done) | (simp; omega)) _ | refine b_call (by assumption) ?_)))); clear hb1 x0 x1 x2 x3 x4 x5 x6 x7)
        | (go_at_call 50; refine (HIN.out _).mono ?_; rintro e w' ⟨rfl, rfl⟩))
      go_ret
      exact ⟨rfl, by have hq := HB1.out; (repeat (first | assumption | exact Below.refl _ _ | refine b_alloc ?_ _ | refine Below.drew ?_ | refine b_drewN ?_ _ | refine Below.setCell ?_ (by first | omega | (simp; done) | (simp; omega)) _ | refine b_call (by assumption) ?_))⟩
    · rw [if_neg h2]
      rw [decide_eq_false h2] at hin
      have HIN := hid hin
      clear hin h2
      go_enter Try.func62, Try.ntmps62
      go_wp2_with (first
        | (go_at_call 27; refine (HCK.out _ (HX.out.below (by have hq := Below.refl w.heap.size w; (repeat (first | assumption | exact Below.refl _ _ | refine b_alloc ?_ _ | refine Below.drew ?_ | refine b_drewN ?_ _ | refine Below.setCell ?_ (by first | omega | (simp; done) | (simp; omega)) _ | refine b_call (by assumption) ?_))))).mono ?_; rintro e w1 ⟨rfl, hb1⟩; have HB1 := hid (show Below w.heap.size w w1 from b_call hb1 (by have hq := Below.refl w.heap.size w; (repeat (first | assumption | exact Below.refl _ _ | refine b_alloc ?_ _ | refine Below.drew ?_ | refine b_drewN ?_ _ | refine Below.setCell ?_ (by first | omega | (simp; done) | (simp; omega)) _ | refine b_call (by assumption) ?_)))); clear hb1 x0 x1 x2 x3 x4 x5 x6 x7)
        | (go_at_call 50; refine (HIN.out _).mono ?_; rintro e w' ⟨rfl, rfl⟩))
      go_ret
      exact ⟨rfl, by have hq := HB1.out; (repeat (first | assumption | exact Below.refl _ _ | refine b_alloc ?_ _ | refine Below.drew ?_ | refine b_drewN ?_ _ | refine Below.setCell ?_ (by first | omega | (simp; done) | (simp; omega)) _ | refine b_call (by assumption) ?_))⟩
  · rw [if_neg h1]
    have h3 : ((chk s).2.2 == 0) = false := by simpa using h1
    generalize (chk s).2.2 = er at *
    have HCK := hid hck
    clear hck h1 hin
    go_enter Try.func62, Try.ntmps62
    go_wp2_with (first
      | (go_at_call 27; refine (HCK.out _ (HX.out.below (by have hq := Below.refl w.heap.size w; (repeat (first | assumption | exact Below.refl _ _ | refine b_alloc ?_ _ | refine Below.drew ?_ | refine b_drewN ?_ _ | refine Below.setCell ?_ (by first | omega | (simp; done) | (simp; omega)) _ | refine b_call (by assumption) ?_))))).mono ?_; rintro e w1 ⟨rfl, hb1⟩; have HB1 := hid (show Below w.heap.size w w1 from b_call hb1 (by have hq := Below.refl w.heap.size w; (repeat (first | assumption | exact Below.refl _ _ | refine b_alloc ?_ _ | refine Below.drew ?_ | refine b_drewN ?_ _ | refine Below.setCell ?_ (by first | omega | (simp; done) | (simp; omega)) _ | refine b_call (by assumption) ?_)))); clear hb1 x0 x1 x2 x3 x4 x5 x6 x7))
    go_ret
    exact ⟨rfl, by have hq := HB1.out; (repeat (first | assumption | exact Below.refl _ _ | refine b_alloc ?_ _ | refine Below.drew ?_ | refine b_drewN ?_ _ | refine Below.setCell ?_ (by first | omega | (simp; done) | (simp; omega)) _ | refine b_call (by assumption) ?_))⟩
/-- What one call of Step does. -/
def St.rst (s : St) : St := if s.ends = 0 then s.step else s.stop
theorem rst_ok {s : St} (h : SOk s) : SOk s.rst := by
  unfold St.rst
  by_cases e : s.ends = 0
  · rw [if_pos e]; exact step_ok h e
  · rw [if_neg e]; exact stop_ok h
theorem run_rst (s : St) (n : Nat) : St.run (n + 1) s = St.run n s.rst := by
  unfold St.rst
  rw [St.run]
  by_cases e : s.ends = 0
  · rw [if_pos e, if_pos e]
  · rw [if_neg e, if_neg e]
    exact (run_stay (s := s.stop) e n).symm
attribute [local go_sem ↓] oper_store
set_option maxRecDepth 100000 in
set_option maxHeartbeats 8000000 in
theorem refRun_ok (q : Sl) (s : St) (hs : SOk s) (N : Nat) (hN : N ≤ 5000) (w : World) (hx : StAt w q s)
    (hst : ∀ (q : Sl) (s : St), SOk s → s.why = 0 → ∀ W, StAt W q s → Calls Try.prog 63 #[stVal q s] W (RetS1 W q s s.rst)) :
    Calls Try.prog 32 #[stVal q s, .int .i64 (N : Int)] w (RetS w (St.run N s) 0) := by
  have hl : StLen s := by obtain ⟨a, b, c⟩ := hs.len; exact ⟨by unfold Len; omega, by unfold Len; omega, by unfold Len; omega⟩
  have has := fun W g => asked_any q s hl (N : Int) W g
  have he : askErr s (N : Int) = 0 := by unfold askErr; rw [chk_ok hs, if_pos rfl, if_pos (by omega)]
  rw [he] at has
  have HAS := hid has
  have HST := hid hst
  have HX := hid hx
  have B0 := hid ((Blk.new w (stCells q s) 37).alloc (.cells zeroCells 37))
  have R0 := hid (show Blk ((w.alloc (.cells (stCells q s) 37)).alloc (.cells zeroCells 37)) (w.heap.size + 1) 37 zeroCells from by
    have h := Blk.new (w.alloc (.cells (stCells q s) 37)) zeroCells 37
    rwa [World.size_alloc] at h)
  obtain ⟨⟨x0, x1, x2, x3⟩, x4, x5, x6, x7⟩ := stBlk B0.out
  clear has he hx hst
  go_enter Try.func32, Try.ntmps32
  go_wp2_with (first
    | (go_at_call 62; refine (HAS.out _ (HX.out.below (by have hq := Below.refl w.heap.size w; (repeat (first | assumption | exact Below.refl _ _ | refine b_alloc ?_ _ | refine Below.drew ?_ | refine b_drewN ?_ _ | refine Below.setCell ?_ (by first | omega | (simp; done) | (simp; omega)) _ | refine b_call (by assumption) ?_))))).mono ?_; rintro e w1 ⟨rfl, hb1⟩; have HB1 := hid (show Below w.heap.size w w1 from b_call hb1 (by have hq := Below.refl w.heap.size w; (repeat (first | assumption | exact Below.refl _ _ | refine b_alloc ?_ _ | refine Below.drew ?_ | refine b_drewN ?_ _ | refine Below.setCell ?_ (by first | omega | (simp; done) | (simp; omega)) _ | refine b_call (by assumption) ?_)))); have B1 := hid (B0.out.call hb1); have R1 := hid (R0.out.call hb1); clear hb1 x0 x1 x2 x3 x4 x5 x6 x7))
  go_loopw [7] (fun iv wr => ∃ (k : Nat) (q' : Sl) (s' : St), k ≤ N ∧ iv = .int .i64 (k : Int) ∧ St.run (N - k) s' = St.run N s ∧ SOk s' ∧ Blk wr w.heap.size 37 (stCells q' s') ∧ Blk wr (w.heap.size + 1) 37 zeroCells ∧ StAt wr q' s' ∧ StOff w.heap.size q' s' ∧ StOff (w.heap.size + 1) q' s' ∧ Below w.heap.size w wr) (fun iv _ => N - (intOf iv).toNat)
  case atStart => exact ⟨0, q, s, by omega, rfl, rfl, hs, B1.out, R1.out, HX.out.below HB1.out, st_new HX.out (Nat.le_refl _), st_new HX.out (by omega), HB1.out⟩
  case round =>
    obtain ⟨k, q', s', hk, rfl, hrun, hok, hb, hr, hsa, ho1, ho2, hbw⟩ := hrel
    have HR := hid hr
    have HB := hid hb
    have HSA := hid hsa
    have HBW := hid hbw
    have HST1 := hid (fun (hw : s'.why = 0) W h => HST.out q' s' hok hw W h)
    have hrs := rst_ok hok
    have hbl := hb.lt
    have hrl := hr.lt
    obtain ⟨⟨x0, x1, x2, x3⟩, x4, x5, x6, x7⟩ := stBlk hb
    have hstb := storeOk8 hb rfl
    have hstr := storeOk8 hr rfl
    by_cases hlt : k < N ∧ s'.why = 0
    · obtain ⟨hlt, hw⟩ := hlt
      have HST2 := hid (HST1.out hw)
      have hw' : (s'.why == 0) = true := by simpa using hw
      have hkn : (k : Int) < (N : Int) := by omega
      have hnx : St.run (N - (k + 1)) s'.rst = St.run N s := by
        rw [← hrun, show N - k = (N - (k + 1)) + 1 by omega, run_rst]
      clear HST1 hb hr hsa hbw hw hstb hstr
      generalize s'.rst = s2 at *
      go_wp2_with (first
        | (go_at_call 63; refine (HST2.out _ (HSA.out.below (by have hq := Below.refl wr.heap.size wr; (repeat (first | assumption | exact Below.refl _ _ | refine b_alloc ?_ _ | refine Below.drew ?_ | refine b_drewN ?_ _ | refine Below.setCell ?_ (by first | omega | (simp; done) | (simp; omega)) _ | refine b_call (by assumption) ?_))))).mono ?_; rintro e w2 ⟨q2, rfl, hs2, hb2, hof⟩; have HW2 := hid (show Below wr.heap.size wr w2 from b_call hb2 (by have hq := Below.refl wr.heap.size wr; (repeat (first | assumption | exact Below.refl _ _ | refine b_alloc ?_ _ | refine Below.drew ?_ | refine b_drewN ?_ _ | refine Below.setCell ?_ (by first | omega | (simp; done) | (simp; omega)) _ | refine b_call (by assumption) ?_)))); have B2 := hid (HB.out.call HW2.out); have R2 := hid (HR.out.call HW2.out); have HS2 := hid hs2; have hst2 := storeOk8 B2.out rfl; have o1 := hof w.heap.size (by omega) ho1; have o2 := hof (w.heap.size + 1) (by omega) ho2; clear hb2 hs2 hof x0 x1 x2 x3 x4 x5 x6 x7))
      go_roundw
      case rel => exact ⟨k + 1, q2, s2, by omega, by go_num, hnx, hrs, B2.out.row (stCells q2 s2), R2.out.rowOther (by omega) (stCells q2 s2), st_off HS2.out o1 (stCells q2 s2), o1, o2, below_setRow (b_call HW2.out HBW.out) (Nat.le_refl _) (stCells q2 s2)⟩
      case measure => simp [intOf]; omega
    · have hex : St.run N s = s' := by
        by_cases hk2 : k < N
        · have hw : s'.why ≠ 0 := fun e => hlt ⟨hk2, e⟩
          rw [← hrun, run_stay hw]
        · rw [← hrun, show N - k = 0 by omega]; rfl
      have hcs : (¬ (k : Int) < (N : Int)) ∨ ((k : Int) < (N : Int) ∧ (s'.why == 0) = false) := by
        by_cases hk2 : k < N
        · exact .inr ⟨by omega, by simpa using (fun e => hlt ⟨hk2, e⟩ : s'.why ≠ 0)⟩
        · exact .inl (by omega)
      have HEX := hid hex
      clear HST1 hb hr hsa hbw hlt hrun hex hstb
      rcases hcs with h1 | ⟨h1, h2⟩
      all_goals
        go_wp2
        have x8 := HR.out.row (stCells q' s')
        have b8 := below_setRow HBW.out (g := w.heap.size + 1) (by omega) (stCells q' s')
        have s8 := st_off HSA.out ho2 (stCells q' s')
        obtain ⟨⟨z0, z1, z2, z3⟩, z4, z5, z6, z7⟩ := stBlk x8
        generalize wr.setRow (w.heap.size + 1) (stCells q' s') = WF at *
        refine ⟨rfl, .tuple #[stVal q' s', .int .i64 0], ?_, q', by rw [HEX.out], by rw [HEX.out]; exact s8, b8⟩
        simp [results, Try.f32, go_sem, z0, z1, z2, z3, z4, z5, z6, z7]
set_option maxRecDepth 100000 in
set_option maxHeartbeats 4000000 in
theorem refRun_err (q : Sl) (s : St) (hl : StLen s) (most : Int) (hne : askErr s most ≠ 0) (w : World) (hx : StAt w q s) : Calls Try.prog 32 #[stVal q s, .int .i64 most] w (RetS w st0 (askErr s most)) := by
  have has := fun W g => asked_any q s hl most W g
  have hne' : (askErr s most != 0) = true := by simpa using hne
  generalize askErr s most = er at *
  have HAS := hid has
  have HX := hid hx
  have B0 := hid ((Blk.new w (stCells q s) 37).alloc (.cells zeroCells 37))
  have R0 := hid (show Blk ((w.alloc (.cells (stCells q s) 37)).alloc (.cells zeroCells 37)) (w.heap.size + 1) 37 zeroCells from by
    have h := Blk.new (w.alloc (.cells (stCells q s) 37)) zeroCells 37
    rwa [World.size_alloc] at h)
  obtain ⟨⟨x0, x1, x2, x3⟩, x4, x5, x6, x7⟩ := stBlk B0.out
  clear has hx hne
  go_enter Try.func32, Try.ntmps32
  go_wp2_with (first
    | (go_at_call 62; refine (HAS.out _ (HX.out.below (by have hq := Below.refl w.heap.size w; (repeat (first | assumption | exact Below.refl _ _ | refine b_alloc ?_ _ | refine Below.drew ?_ | refine b_drewN ?_ _ | refine Below.setCell ?_ (by first | omega | (simp; done) | (simp; omega)) _ | refine b_call (by assumption) ?_))))).mono ?_; rintro e w1 ⟨rfl, hb1⟩; have HB1 := hid (show Below w.heap.size w w1 from b_call hb1 (by have hq := Below.refl w.heap.size w; (repeat (first | assumption | exact Below.refl _ _ | refine b_alloc ?_ _ | refine Below.drew ?_ | refine b_drewN ?_ _ | refine Below.setCell ?_ (by first | omega | (simp; done) | (simp; omega)) _ | refine b_call (by assumption) ?_)))); have R1 := hid (R0.out.call hb1); have hst := storeOk8 R1.out rfl; clear hb1 x0 x1 x2 x3 x4 x5 x6 x7))
  have x8 := R1.out.row zeroCells
  have b8 := below_setRow HB1.out (g := w.heap.size + 1) (by omega) zeroCells
  obtain ⟨⟨z0, z1, z2, z3⟩, z4, z5, z6, z7⟩ := stBlk x8
  generalize World.setRow w1 (w.heap.size + 1) zeroCells = WF at *
  refine ⟨rfl, .tuple #[.agg zeroCells, .int .i64 er], ?_, slNone, rfl, stAt0 _, b8⟩
  simp [results, Try.f32, go_sem, z0, z1, z2, z3, z4, z5, z6, z7]
/-- What the reference's Step does, wherever it is called. -/
abbrev StepDoes : Prop := ∀ (q : Sl) (s : St), SOk s → s.why = 0 → ∀ W, StAt W q s → Calls Try.prog 63 #[stVal q s] W (RetS1 W q s s.rst)
theorem refRun_any (hst : StepDoes) (q : Sl) (s : St) (hl : StLen s) (most : Int) (w : World) (hx : StAt w q s) : Calls Try.prog 32 #[stVal q s, .int .i64 most] w (RetS w (runOf s most) (askErr s most)) := by
  unfold runOf
  by_cases h : askErr s most = 0
  · obtain ⟨hs, h0, h1⟩ := ask_ok h
    rw [if_pos h, h]
    have e : most = (most.toNat : Int) := by omega
    have := refRun_ok q s hs most.toNat (by omega) w hx hst
    rw [← e] at this
    exact this
  · rw [if_neg h]
    exact refRun_err q s hl most h w hx
end Go.Proofs.Ytbfhgcnfhjhgcaa
