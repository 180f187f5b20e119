/-
  Runs, as plain mathematics: what has ended stays; runs can be cut; later by whole major cycles.
  Run and Trace, for any state and number of orders.
-/
import Derived.Test.YtbfhgcnfhjhgcaaSteps
import Derived.Test.YtbfhgcnfhjhgcaaTrace
import Derived.Test.YtbfhgcnfhjhgcaaStarted
namespace Go.Proofs.Ytbfhgcnfhjhgcaa
set_option linter.unusedVariables false
set_option linter.unusedSimpArgs false

theorem deed_why (s : St) (o : Od) : (s.deed o).why = s.why := by
  unfold St.deed; repeat' split
  all_goals rfl
theorem nxt_time {s : St} (h : SOk s) : s.time < s.nxt.2 := (fol_spec h.od s.time s.neg).2.1
theorem run_grows : ∀ (n : Nat) {s : St}, SOk s → s.done ≤ (St.run n s).done ∧ (St.run n s).done ≤ s.done + n ∧ s.time ≤ (St.run n s).time ∧ ((St.run n s).why = 0 → (St.run n s).done = s.done + n)
  | 0, s, _ => by simp [St.run]
  | n + 1, s, h => by
    unfold St.run
    by_cases e : s.ends = 0
    · rw [if_pos e]
      have ih := run_grows n (step_ok h e)
      have hd : s.step.done = s.done + 1 := rfl
      have ht : s.step.time = s.nxt.2 := rfl
      have := nxt_time h
      rw [hd, ht] at ih
      push_cast
      omega
    · rw [if_neg e]
      have hd : s.stop.done = s.done := rfl
      have ht : s.stop.time = s.time := rfl
      have hw : s.stop.why = s.ends := rfl
      rw [hd, ht, hw]
      push_cast
      omega
theorem ends_why {s : St} (h : s.why ≠ 0) : s.ends = s.why := by unfold St.ends; rw [if_neg h]
theorem stop_why {s : St} (h : s.why ≠ 0) : s.stop = s := by
  unfold St.stop
  rw [ends_why h]
theorem run_stay {s : St} (h : s.why ≠ 0) : ∀ m, St.run m s = s
  | 0 => rfl
  | m + 1 => by unfold St.run; rw [if_neg (by rw [ends_why h]; exact h), stop_why h]
theorem trace_stay {s : St} (h : s.why ≠ 0) : ∀ m, St.trace m s = []
  | 0 => rfl
  | m + 1 => by unfold St.trace; rw [if_neg (by rw [ends_why h]; exact h)]
theorem run_add : ∀ (a b : Nat) (s : St), St.run (a + b) s = St.run b (St.run a s)
  | 0, b, s => by rw [Nat.zero_add]; rfl
  | a + 1, b, s => by
    rw [show a + 1 + b = (a + b) + 1 by omega]
    by_cases e : s.ends = 0
    · rw [St.run, if_pos e, run_add a b s.step, St.run, if_pos e]
    · rw [St.run, if_neg e, St.run, if_neg e]
      exact (run_stay (s := s.stop) e b).symm

/-! ### later -/
/-- The same state, later. -/
def St.sh (s : St) (d : Int) : St := { s with time := s.time + d }
theorem aft_sh (c a k : Int) : aft (c + 16 * k) a = aft c a + 16 * k := by unfold aft nb; omega
theorem fol_sh (o : Od) (t k : Int) (neg : Bool) : folOf o (t + 16 * k) neg = ((folOf o t neg).1, (folOf o t neg).2 + 16 * k) := by
  obtain ⟨op, fr, tt, nx⟩ := o
  have hcs : op = 6 ∨ op = 4 ∨ (op = 5 ∧ neg = true) ∨ (op = 5 ∧ neg = false) ∨ op = 7 ∨ (¬ op = 6 ∧ ¬ op = 4 ∧ ¬ op = 5 ∧ ¬ op = 7) := by
    cases neg <;> simp <;> omega
  rcases hcs with rfl | rfl | ⟨rfl, rfl⟩ | ⟨rfl, rfl⟩ | rfl | ⟨n6, n4, n5, n7⟩
  · simp only [fol6, aft_sh]
  · simp only [fol4, aft_sh]
    rw [show aft (aft t fr) tt + 16 * k + 12 = aft (aft t fr) tt + 12 + 16 * k by omega]
    simp only [aft_sh]
  · simp only [fol5t, aft_sh]
  · simp only [fol5f, aft_sh]
  · simp only [fol7, aft_sh]
  · simp only [folx _ _ _ _ _ _ n6 n4 n5 n7, aft_sh]
theorem nxt_sh (s : St) (k : Int) : (s.sh (16 * k)).nxt = (s.nxt.1, s.nxt.2 + 16 * k) := fol_sh s.od s.time k s.neg
theorem deed_sh (s : St) (o : Od) (d : Int) : (s.sh d).deed o = (s.deed o).sh d := by
  unfold St.deed St.sh
  repeat' split
  all_goals rfl
theorem step_sh (s : St) (k : Int) : (s.sh (16 * k)).step = s.step.sh (16 * k) := by
  unfold St.step
  rw [nxt_sh, show (s.sh (16 * k)).od = s.od from rfl, deed_sh]
  rfl
theorem ends_sh (s : St) (k : Int) (hk : 0 ≤ k) : ((s.sh (16 * k)).ends = s.ends) ∨ (s.sh (16 * k)).ends = 4 := by
  unfold St.ends
  rw [nxt_sh]
  show (if s.why = 0 then (if s.od.op = 0 then 1 else if s.od.op = 6 ∧ s.taken = (s.tape.length : Int) then 2 else if s.od.op = 7 ∧ s.printed.length = 200 then 3 else if 1000000000 < s.nxt.2 + 16 * k then 4 else 0) else s.why : Int) = _ ∨ (if s.why = 0 then (if s.od.op = 0 then 1 else if s.od.op = 6 ∧ s.taken = (s.tape.length : Int) then 2 else if s.od.op = 7 ∧ s.printed.length = 200 then 3 else if 1000000000 < s.nxt.2 + 16 * k then 4 else 0) else s.why : Int) = 4
  repeat' split
  all_goals first | (left; rfl) | (right; rfl) | omega
theorem run_sh (k : Int) (hk : 0 ≤ k) : ∀ (n : Nat) (s : St), (St.run n s).why ≠ 4 → (St.run n (s.sh (16 * k))).why ≠ 4 → St.run n (s.sh (16 * k)) = (St.run n s).sh (16 * k)
  | 0, s, _, _ => rfl
  | n + 1, s, h1, h2 => by
    rw [St.run] at h1 h2
    rw [St.run, St.run]
    rcases ends_sh s k hk with e | e
    · by_cases h0 : s.ends = 0
      · rw [if_pos h0] at h1
        rw [if_pos (e.trans h0), step_sh] at h2
        rw [if_pos (e.trans h0), if_pos h0, step_sh]
        exact run_sh k hk n s.step h1 h2
      · rw [if_neg (by rw [e]; exact h0), if_neg h0]
        unfold St.stop
        rw [e]
        rfl
    · rw [if_neg (by rw [e]; decide)] at h2
      exact absurd e h2
end Go.Proofs.Ytbfhgcnfhjhgcaa
namespace Go.Proofs.Ytbfhgcnfhjhgcaa
open Go.RowKit
set_option linter.unusedVariables false
set_option linter.unusedSimpArgs false

/-- The error of a state and a number of orders. -/
def askErr (s : St) (most : Int) : Int := if (chk s).2.2 = 0 then (if 0 ≤ most ∧ most ≤ 5000 then 0 else 7) else (chk s).2.2
theorem ask_ok {s : St} {most : Int} (h : askErr s most = 0) : SOk s ∧ 0 ≤ most ∧ most ≤ 5000 := by
  unfold askErr at h
  by_cases h1 : (chk s).2.2 = 0
  · rw [if_pos h1] at h
    by_cases h2 : 0 ≤ most ∧ most ≤ 5000
    · exact ⟨ok_of_chk h1, h2⟩
    · rw [if_neg h2] at h; simp at h
  · rw [if_neg h1] at h; exact absurd h h1
set_option maxRecDepth 100000 in
set_option maxHeartbeats 4000000 in
theorem started_err (q : Sl) (s : St) (hl : StLen s) (most er : Int) (he : askErr s most = er) (hne : er ≠ 0) (w : World) (hx : StAt w q s) : Calls Try.prog 60 #[stVal q s, .int .i64 most] w (Ret w (.tuple #[.pointer none, .int .i64 er])) := by
  have B0 := hid (Blk.new w (stCells q s) 37)
  have HX := hid hx
  obtain ⟨⟨c0, c1, c2, c3⟩, c4, c5, c6, c7⟩ := stBlk B0.out
  have hck := fun W g => Check_any q s hl W g
  unfold askErr at he
  clear hx hl
  by_cases h1 : (chk s).2.2 = 0
  · rw [if_pos h1] at he
    rw [h1] at hck
    generalize (chk s).1 = r1 at *
    generalize (chk s).2.1 = r2 at *
    by_cases h2 : 0 ≤ most ∧ most ≤ 5000
    · rw [if_pos h2] at he; exact absurd he.symm hne
    · rw [if_neg h2] at he
      subst he
      have hou := fun W a c g => out5000 most a c W g
      rw [if_neg h2] at hou
      have HCK := hid hck
      have HOU := hid hou
      clear hck hou h1 h2 hne
      go_enter Try.func60, Try.ntmps60
      go_wp2_with (first
        | (go_at_call 26; refine (HCK.out _ (HX.out.below (by (repeat (first | assumption | exact Below.refl _ _ | refine b_alloc ?_ _ | refine Below.drew ?_ | refine b_drewN ?_ _ | refine Below.setCell ?_ (by first | omega | (simp; done) | (simp; omega)) _ | refine b_call (by assumption) ?_))))).mono ?_; rintro e w1 ⟨rfl, hb1⟩; have HB1 := hid (show Below w.heap.size w w1 from b_call hb1 (by (repeat (first | assumption | exact Below.refl _ _ | refine b_alloc ?_ _ | refine Below.drew ?_ | refine b_drewN ?_ _ | refine Below.setCell ?_ (by first | omega | (simp; done) | (simp; omega)) _ | refine b_call (by assumption) ?_)))); clear hb1 c0 c1 c2 c3 c4 c5 c6 c7)
        | (go_at_call 52; refine (HOU.out _ _ _ (ints1' _ _ _ (by simp))).mono ?_; rintro e w2 ⟨rfl, hb2⟩; have HB2 := hid (b_call hb2 (b_alloc HB1.out _)); clear hb2))
      go_ret2
      exact ⟨rfl, HB2.out⟩
  · rw [if_neg h1] at he
    rw [he] at hck
    generalize (chk s).1 = r1 at *
    generalize (chk s).2.1 = r2 at *
    have hne' : (er != 0) = true := by simpa using hne
    have HCK := hid hck
    clear hck h1 he hne
    go_enter Try.func60, Try.ntmps60
    go_wp2_with (go_at_call 26; refine (HCK.out _ (HX.out.below (by (repeat (first | assumption | exact Below.refl _ _ | refine b_alloc ?_ _ | refine Below.drew ?_ | refine b_drewN ?_ _ | refine Below.setCell ?_ (by first | omega | (simp; done) | (simp; omega)) _ | refine b_call (by assumption) ?_))))).mono ?_; rintro e w1 ⟨rfl, hb1⟩; have HB1 := hid (show Below w.heap.size w w1 from b_call hb1 (by (repeat (first | assumption | exact Below.refl _ _ | refine b_alloc ?_ _ | refine Below.drew ?_ | refine b_drewN ?_ _ | refine Below.setCell ?_ (by first | omega | (simp; done) | (simp; omega)) _ | refine b_call (by assumption) ?_)))); clear hb1 c0 c1 c2 c3 c4 c5 c6 c7)
    go_ret2
    exact ⟨rfl, HB1.out⟩
attribute [local go_sem ↓] oper_store
set_option maxRecDepth 100000 in
set_option maxHeartbeats 4000000 in
theorem run_err (q : Sl) (s : St) (most er : Int) (hne : er ≠ 0) (w : World) (hst : ∀ W, Below w.heap.size w W → Calls Try.prog 60 #[stVal q s, .int .i64 most] W (Ret W (.tuple #[.pointer none, .int .i64 er]))) :
    Calls Try.prog 31 #[stVal q s, .int .i64 most] w (RetS w st0 er) := by
  have B0 := hid (Blk.new w (stCells q s) 37)
  have B1 := hid (Blk.new (w.alloc (.cells (stCells q s) 37)) zeroCells 37)
  have HST := hid hst
  have hne' : (er != 0) = true := by simpa using hne
  clear hst hne
  go_enter Try.func31, Try.ntmps31
  go_wp2_with (go_at_call 60; refine (HST.out _ (by (repeat (first | assumption | exact Below.refl _ _ | refine b_alloc ?_ _ | refine Below.drew ?_ | refine b_drewN ?_ _ | refine Below.setCell ?_ (by first | omega | (simp; done) | (simp; omega)) _ | refine b_call (by assumption) ?_)))).mono ?_; rintro e w1 ⟨rfl, hb1⟩; have HB1 := hid (b_call hb1 (b_alloc (b_alloc (Below.refl w.heap.size w) _) _)); have B2 := hid (show Blk w1 (w.heap.size + 1) 37 zeroCells by have h := B1.out.call hb1; rwa [World.size_alloc] at h); have hst := storeOk8 B2.out rfl; clear hb1)
  have x8 := B2.out.row zeroCells
  have b8 := below_setRow HB1.out (g := w.heap.size + 1) (by omega) zeroCells
  obtain ⟨⟨z0, z1, z2, z3⟩, z4, z5, z6, z7⟩ := stBlk x8
  generalize World.setRow w1 (w.heap.size + 1) zeroCells = WF at *
  refine ⟨rfl, .tuple #[.agg zeroCells, .int .i64 er], ?_, slNone, rfl, stAt0 _, b8⟩
  simp [results, Try.f31, go_sem, z0, z1, z2, z3, z4, z5, z6, z7]
set_option maxRecDepth 100000 in
set_option maxHeartbeats 4000000 in
theorem trace_err (q : Sl) (s : St) (most er : Int) (hne : er ≠ 0) (w : World) (hst : ∀ W, Below w.heap.size w W → Calls Try.prog 60 #[stVal q s, .int .i64 most] W (Ret W (.tuple #[.pointer none, .int .i64 er]))) :
    Calls Try.prog 33 #[stVal q s, .int .i64 most] w (RetT w [] er) := by
  have B0 := hid (Blk.new w (stCells q s) 37)
  have HST := hid hst
  have hne' : (er != 0) = true := by simpa using hne
  clear hst hne
  go_enter Try.func33, Try.ntmps33
  go_wp2_with (go_at_call 60; refine (HST.out _ (by (repeat (first | assumption | exact Below.refl _ _ | refine b_alloc ?_ _ | refine Below.drew ?_ | refine b_drewN ?_ _ | refine Below.setCell ?_ (by first | omega | (simp; done) | (simp; omega)) _ | refine b_call (by assumption) ?_)))).mono ?_; rintro e w1 ⟨rfl, hb1⟩; have HB1 := hid (b_call hb1 (b_alloc (Below.refl w.heap.size w) _)); clear hb1)
  go_ret2
  exact ⟨_, rfl, World.ownsRow_nil _ _ _ _, HB1.out⟩
/-- What Run, and Trace, return. -/
def runOf (s : St) (most : Int) : St := if askErr s most = 0 then St.run most.toNat s else st0
def traceOf (s : St) (most : Int) : List Stp := if askErr s most = 0 then St.trace most.toNat s else []
theorem Run_any (q : Sl) (s : St) (hl : StLen s) (most : Int) (w : World) (hx : StAt w q s) : Calls Try.prog 31 #[stVal q s, .int .i64 most] w (RetS w (runOf s most) (askErr s most)) := by
  unfold runOf
  by_cases h : askErr s most = 0
  · obtain ⟨hs, h0, h1⟩ := ask_ok h
    rw [if_pos h, h]
    have e : most = (most.toNat : Int) := by omega
    have := Run_ok' q s hs most.toNat (by omega) w (fun W hb => started_ok q s hs most.toNat (by omega) W (hx.below hb))
    rw [← e] at this
    exact this
  · rw [if_neg h]
    exact run_err q s most _ h w (fun W hb => started_err q s hl most _ rfl h W (hx.below hb))
theorem Trace_any (q : Sl) (s : St) (hl : StLen s) (most : Int) (w : World) (hx : StAt w q s) : Calls Try.prog 33 #[stVal q s, .int .i64 most] w (RetT w (traceOf s most) (askErr s most)) := by
  unfold traceOf
  by_cases h : askErr s most = 0
  · obtain ⟨hs, h0, h1⟩ := ask_ok h
    rw [if_pos h, h]
    have e : most = (most.toNat : Int) := by omega
    have := Trace_ok' q s hs most.toNat (by omega) w (fun W hb => started_ok q s hs most.toNat (by omega) W (hx.below hb))
    rw [← e] at this
    exact this
  · rw [if_neg h]
    exact trace_err q s most _ h w (fun W hb => started_err q s hl most _ rfl h W (hx.below hb))
end Go.Proofs.Ytbfhgcnfhjhgcaa
