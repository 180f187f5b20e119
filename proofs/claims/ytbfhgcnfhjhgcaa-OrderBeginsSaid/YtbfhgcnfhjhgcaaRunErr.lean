/-
  Run and Trace, for any state and number of orders.
-/
import Derived.Test.YtbfhgcnfhjhgcaaTrace
import Derived.Test.YtbfhgcnfhjhgcaaStarted
namespace Go.Proofs.Ytbfhgcnfhjhgcaa
open Go.RowKit
set_option linter.unusedVariables false
set_option linter.unusedSimpArgs false

/-- The error of a state and a number of orders. -/
def askErr (s : St) (most : Int) : Int := if (chk s).2.2 = 0 then (if 0 ≤ most ∧ most ≤ 5000 then 0 else 7) else (chk s).2.2
theorem ask_ok {s : St} {most : Int} (h : askErr s most = 0) : SOk s ∧ 0 ≤ most ∧ most ≤ 5000 := by
  unfold askErr at h
  by_cases h1 : (chk s).2.2 = 0
  · rw [if_pos h1] at h
    by_cases h2 : 0 ≤ most ∧ most ≤ 5000
    · exact ⟨ok_of_chk h1, h2⟩
    · rw [if_neg h2] at h; simp at h
  · rw [if_neg h1] at h; exact absurd h h1
set_option maxRecDepth 100000 in
set_option maxHeartbeats 4000000 in
theorem started_err (q : Sl) (s : St) (hl : StLen s) (most er : Int) (he : askErr s most = er) (hne : er ≠ 0) (w : World) (hx : StAt w q s) : Calls Try.prog 60 #[stVal q s, .int .i64 most] w (Ret w (.tuple #[.pointer none, .int .i64 er])) := by
  have B0 := hid (Blk.new w (stCells q s) 37)
  have HX := hid hx
  obtain ⟨⟨c0, c1, c2, c3⟩, c4, c5, c6, c7⟩ := stBlk B0.out
  have hck := fun W g => Check_any q s hl W g
  unfold askErr at he
  clear hx hl
  by_cases h1 : (chk s).2.2 = 0
  · rw [if_pos h1] at he
    rw [h1] at hck
    generalize (chk s).1 = r1 at *
    generalize (chk s).2.1 = r2 at *
    by_cases h2 : 0 ≤ most ∧ most ≤ 5000
    · rw [if_pos h2] at he; exact absurd he.symm hne
    · rw [if_neg h2] at he
      subst he
      have hou := fun W a c g => out5000 most a c W g
      rw [if_neg h2] at hou
      have HCK := hid hck
      have HOU := hid hou
      clear hck hou h1 h2 hne
      go_enter Try.func60, Try.ntmps60
      go_wp2_with (first
        | (go_at_call 26; refine (HCK.out _ (HX.out.below (by (repeat (first | assumption | exact Below.refl _ _ | refine b_alloc ?_ _ | refine Below.drew ?_ | refine b_drewN ?_ _ | refine Below.setCell ?_ (by first | omega | (simp; done) | (simp; omega)) _ | refine b_call (by assumption) ?_))))).mono ?_; rintro e w1 ⟨rfl, hb1⟩; have HB1 := hid (show Below w.heap.size w w1 from b_call hb1 (by (repeat (first | assumption | exact Below.refl _ _ | refine b_alloc ?_ _ | refine Below.drew ?_ | refine b_drewN ?_ _ | refine Below.setCell ?_ (by first | omega | (simp; done) | (simp; omega)) _ | refine b_call (by assumption) ?_)))); clear hb1 c0 c1 c2 c3 c4 c5 c6 c7)
        | (go_at_call 52; refine (HOU.out _ _ _ (ints1' _ _ _ (by simp))).mono ?_; rintro e w2 ⟨rfl, hb2⟩; have HB2 := hid (b_call hb2 (b_alloc HB1.out _)); clear hb2))
      go_ret2
      exact ⟨rfl, HB2.out⟩
  · rw [if_neg h1] at he
    rw [he] at hck
    generalize (chk s).1 = r1 at *
    generalize (chk s).2.1 = r2 at *
    have hne' : (er != 0) = true := by simpa using hne
    have HCK := hid hck
    clear hck h1 he hne
    go_enter Try.func60, Try.ntmps60
    go_wp2_with (go_at_call 26; refine (HCK.out _ (HX.out.below (by (repeat (first | assumption | exact Below.refl _ _ | refine b_alloc ?_ _ | refine Below.drew ?_ | refine b_drewN ?_ _ | refine Below.setCell ?_ (by first | omega | (simp; done) | (simp; omega)) _ | refine b_call (by assumption) ?_))))).mono ?_; rintro e w1 ⟨rfl, hb1⟩; have HB1 := hid (show Below w.heap.size w w1 from b_call hb1 (by (repeat (first | assumption | exact Below.refl _ _ | refine b_alloc ?_ _ | refine Below.drew ?_ | refine b_drewN ?_ _ | refine Below.setCell ?_ (by first | omega | (simp; done) | (simp; omega)) _ | refine b_call (by assumption) ?_)))); clear hb1 c0 c1 c2 c3 c4 c5 c6 c7)
    go_ret2
    exact ⟨rfl, HB1.out⟩
attribute [local go_sem ↓] oper_store
set_option maxRecDepth 100000 in
set_option maxHeartbeats 4000000 in
theorem run_err (q : Sl) (s : St) (most er : Int) (hne : er ≠ 0) (w : World) (hst : ∀ W, Below w.heap.size w W → Calls Try.prog 60 #[stVal q s, .int .i64 most] W (Ret W (.tuple #[.pointer none, .int .i64 er]))) :
    Calls Try.prog 31 #[stVal q s, .int .i64 most] w (RetS w st0 er) := by
  have B0 := hid (Blk.new w (stCells q s) 37)
  have B1 := hid (Blk.new (w.alloc (.cells (stCells q s) 37)) zeroCells 37)
  have HST := hid hst
  have hne' : (er != 0) = true := by simpa using hne
  clear hst hne
  go_enter Try.func31, Try.ntmps31
  go_wp2_with (go_at_call 60; refine (HST.out _ (by (repeat (first | assumption | exact Below.refl _ _ | refine b_alloc ?_ _ | refine Below.drew ?_ | refine b_drewN ?_ _ | refine Below.setCell ?_ (by first | omega | (simp; done) | (simp; omega)) _ | refine b_call (by assumption) ?_)))).mono ?_; rintro e w1 ⟨rfl, hb1⟩; have HB1 := hid (b_call hb1 (b_alloc (b_alloc (Below.refl w.heap.size w) _) _)); have B2 := hid (show Blk w1 (w.heap.size + 1) 37 zeroCells by have h := B1.out.call hb1; rwa [World.size_alloc] at h); have hst := storeOk8 B2.out rfl; clear hb1)
  have x8 := B2.out.row zeroCells
  have b8 := below_setRow HB1.out (g := w.heap.size + 1) (by omega) zeroCells
  obtain ⟨⟨z0, z1, z2, z3⟩, z4, z5, z6, z7⟩ := stBlk x8
  generalize World.setRow w1 (w.heap.size + 1) zeroCells = WF at *
  refine ⟨rfl, .tuple #[.agg zeroCells, .int .i64 er], ?_, slNone, rfl, stAt0 _, b8⟩
  simp [results, Try.f31, go_sem, z0, z1, z2, z3, z4, z5, z6, z7]
set_option maxRecDepth 100000 in
set_option maxHeartbeats 4000000 in
theorem trace_err (q : Sl) (s : St) (most er : Int) (hne : er ≠ 0) (w : World) (hst : ∀ W, Below w.heap.size w W → Calls Try.prog 60 #[stVal q s, .int .i64 most] W (Ret W (.tuple #[.pointer none, .int .i64 er]))) :
    Calls Try.prog 33 #[stVal q s, .int .i64 most] w (RetT w [] er) := by
  have B0 := hid (Blk.new w (stCells q s) 37)
  have HST := hid hst
  have hne' : (er != 0) = true := by simpa using hne
  clear hst hne
  go_enter Try.func33, Try.ntmps33
  go_wp2_with (go_at_call 60; refine (HST.out _ (by (repeat (first | assumption | exact Below.refl _ _ | refine b_alloc ?_ _ | refine Below.drew ?_ | refine b_drewN ?_ _ | refine Below.setCell ?_ (by first | omega | (simp; done) | (simp; omega)) _ | refine b_call (by assumption) ?_)))).mono ?_; rintro e w1 ⟨rfl, hb1⟩; have HB1 := hid (b_call hb1 (b_alloc (Below.refl w.heap.size w) _)); clear hb1)
  go_ret2
  exact ⟨_, rfl, World.ownsRow_nil _ _ _ _, HB1.out⟩
/-- What Run, and Trace, return. -/
def runOf (s : St) (most : Int) : St := if askErr s most = 0 then St.run most.toNat s else st0
def traceOf (s : St) (most : Int) : List Stp := if askErr s most = 0 then St.trace most.toNat s else []
theorem Run_any (q : Sl) (s : St) (hl : StLen s) (most : Int) (w : World) (hx : StAt w q s) : Calls Try.prog 31 #[stVal q s, .int .i64 most] w (RetS w (runOf s most) (askErr s most)) := by
  unfold runOf
  by_cases h : askErr s most = 0
  · obtain ⟨hs, h0, h1⟩ := ask_ok h
    rw [if_pos h, h]
    have e : most = (most.toNat : Int) := by omega
    have := Run_ok' q s hs most.toNat (by omega) w (fun W hb => started_ok q s hs most.toNat (by omega) W (hx.below hb))
    rw [← e] at this
    exact this
  · rw [if_neg h]
    exact run_err q s most _ h w (fun W hb => started_err q s hl most _ rfl h W (hx.below hb))
theorem Trace_any (q : Sl) (s : St) (hl : StLen s) (most : Int) (w : World) (hx : StAt w q s) : Calls Try.prog 33 #[stVal q s, .int .i64 most] w (RetT w (traceOf s most) (askErr s most)) := by
  unfold traceOf
  by_cases h : askErr s most = 0
  · obtain ⟨hs, h0, h1⟩ := ask_ok h
    rw [if_pos h, h]
    have e : most = (most.toNat : Int) := by omega
    have := Trace_ok' q s hs most.toNat (by omega) w (fun W hb => started_ok q s hs most.toNat (by omega) W (hx.below hb))
    rw [← e] at this
    exact this
  · rw [if_neg h]
    exact trace_err q s most _ h w (fun W hb => started_err q s hl most _ rfl h W (hx.below hb))
end Go.Proofs.Ytbfhgcnfhjhgcaa
