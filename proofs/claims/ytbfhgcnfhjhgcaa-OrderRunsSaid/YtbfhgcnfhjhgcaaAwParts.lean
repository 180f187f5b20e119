/-
  The calls of the example.
-/
import Derived.Test.YtbfhgcnfhjhgcaaBegin
import Derived.Test.YtbfhgcnfhjhgcaaStarted
import Derived.Test.YtbfhgcnfhjhgcaaTrace
import Derived.Test.YtbfhgcnfhjhgcaaAwMath
import Derived.Test.YtbfhgcnfhjhgcaaRefInts
namespace Go.Proofs.Ytbfhgcnfhjhgcaa
open Go.RowKit
set_option linter.unusedVariables false
set_option linter.unusedSimpArgs false

set_option maxHeartbeats 1000000 in
theorem Store_any (w : World) : Calls Try.prog 36 #[] w (fun e w' => ∃ b, e = .returned (.slice (some ⟨b, 0, none⟩) 15 15) ∧ IntsAt w' (some ⟨b, 0, none⟩) stE ∧ Below w.heap.size w w') := by
  go_enter Try.func36, Try.ntmps36
  go_wp2
  go_ret
  refine ⟨w.heap.size, rfl, ?_, b_alloc (Below.refl _ _) _⟩
  intro j hj
  refine ⟨_, 0, rfl, ?_⟩
  rw [Nat.zero_add]
  refine (Cel.new w _ _ j _ ?_).1
  have hj' : j < 15 := hj
  have : ∀ j, j < 15 → (#[Value.int .i64 12583560, .int .i64 0, .int .i64 0, .int .i64 0, .int .i64 0, .int .i64 0, .int .i64 0, .int .i64 0, .int .i64 10569226, .int .i64 0, .int .i64 4278016, .int .i64 0, .int .i64 14909453, .int .i64 0, .int .i64 0] : Array Value)[j]? = some (.int .i64 (stE[j]?.getD 0)) := by
    intro j hj
    match j, hj with
    | 0, _ => rfl
    | 1, _ => rfl
    | 2, _ => rfl
    | 3, _ => rfl
    | 4, _ => rfl
    | 5, _ => rfl
    | 6, _ => rfl
    | 7, _ => rfl
    | 8, _ => rfl
    | 9, _ => rfl
    | 10, _ => rfl
    | 11, _ => rfl
    | 12, _ => rfl
    | 13, _ => rfl
    | 14, _ => rfl
  exact this j hj'
theorem aBegin (a b : Option Addr) (ca cb : Nat) (w : World) (hx : IntsAt w a stE) (hy : IntsAt w b [3, 4, 16777215]) : Calls Try.prog 28 #[.slice a 15 ca, .slice b 3 cb, .int .i64 0] w (RetS w sA 0) := by
  have h := begin_ok a b ca cb stE [3, 4, 16777215] 0 (by decide) (by decide) (by kernel_rfl) (by kernel_rfl) (by decide) w hx hy
  rw [show begSt stE [3, 4, 16777215] 0 = sA from by kernel_rfl] at h
  exact h
/-- What the run of the example returns. -/
def ARun (w : World) (e : Ending) (w' : World) : Prop := ∃ (bs os cs cb : Nat) (tb : Option Addr) (bp op cp : Nat), e = .returned (.tuple #[.agg #[.slice (some ⟨bs, os, none⟩) 128 cs, .slice tb 3 cb, .int .i64 3, .slice (some ⟨bp, op, none⟩) 1 cp, .int .i64 141, .int .i64 13, .int .i64 9, .int .i64 1], .int .i64 0]) ∧
  (w'.cell? ⟨bs, os + 14, none⟩ = some (.int .i64 7) ∧ w'.cell? ⟨bs, os + 5, none⟩ = some (.int .i64 16777215) ∧ IntsAt w' (some ⟨bp, op, none⟩) [7]) ∧ Below w.heap.size w w'
theorem aRun (q : Sl) (w : World) (hx : StAt w q sA) : Calls Try.prog 31 #[stVal q sA, .int .i64 100] w (ARun w) := by
  refine (Run_ok' q sA sA_ok 100 (by decide) w (fun W hb => started_ok q sA sA_ok 100 (by decide) W (hx.below hb))).mono ?_
  rintro e w' ⟨q', rfl, ⟨h1, h2, h3⟩, hb⟩
  rw [show St.run 100 sA = sB from rfl] at *
  obtain ⟨bs, os, e1, c14⟩ := h1 14 (by rw [sB_len]; decide)
  obtain ⟨bs', os', e1', c5⟩ := h1 5 (by rw [sB_len]; decide)
  rw [sB_14] at c14
  rw [sB_5] at c5
  obtain ⟨bp, op, e3, _⟩ := h3 0 (by rw [sB_prn]; decide)
  rw [e1] at e1'
  cases e1'
  refine ⟨bs, os, q'.ca, q'.cb, q'.b, bp, op, q'.cc, ?_, ⟨c14, c5, ?_⟩, hb⟩
  · unfold stVal stCells
    rw [sB_len, sB_tape, sB_prn, sB_taken, sB_time, sB_at, sB_done, sB_why, e1, e3]
    rfl
  · rw [← e3, ← sB_prn]; exact h3
/-- What the trace of the example returns. -/
def ATrc (w : World) (e : Ending) (w' : World) : Prop := ∃ (b c : Nat), e = .returned (.tuple #[.slice (some ⟨b, 0, none⟩) 3 c, .int .i64 0]) ∧ (w'.cell? ⟨b, 6, none⟩ = some (.int .i64 8) ∧ w'.cell? ⟨b, 13, none⟩ = some (.int .i64 26) ∧ w'.cell? ⟨b, 20, none⟩ = some (.int .i64 48)) ∧ Below w.heap.size w w'
theorem aTrace (q : Sl) (w : World) (hx : StAt w q sA) : Calls Try.prog 33 #[stVal q sA, .int .i64 3] w (ATrc w) := by
  refine (Trace_ok' q sA sA_ok 3 (by decide) w (fun W hb => started_ok q sA sA_ok 3 (by decide) W (hx.below hb))).mono ?_
  rintro e w' ⟨v, rfl, hr, hb⟩
  have h3 : (St.trace 3 sA).length = 3 := by kernel_rfl
  rw [h3] at hr
  rcases hr.2 with ⟨_, e2⟩ | ⟨g, cap, cur, rfl, _⟩
  · omega
  · have d6 : (stpsC (St.trace 3 sA))[6]? = some (.int .i64 8) := by kernel_rfl
    have d13 : (stpsC (St.trace 3 sA))[13]? = some (.int .i64 26) := by kernel_rfl
    have d20 : (stpsC (St.trace 3 sA))[20]? = some (.int .i64 48) := by kernel_rfl
    exact ⟨g, cap, rfl, ⟨(hr.cellAt 6 (by decide)).trans d6, (hr.cellAt 13 (by decide)).trans d13, (hr.cellAt 20 (by decide)).trans d20⟩, hb⟩
theorem aSigned1 (w : World) : Calls Try.prog 21 #[.int .i64 8388608] w (Ret w (val2 (-8388608) 0)) := Signed_any 8388608 w
theorem aSigned2 (w : World) : Calls Try.prog 21 #[.int .i64 16777216] w (Ret w (val2 0 7)) := Signed_any 16777216 w
theorem aDecode (w : World) : Calls Try.prog 19 #[.int .i64 10569226] w (Ret w (.tuple #[.agg #[.int .i64 5, .int .i64 5, .int .i64 12, .int .i64 10], .int .i64 0])) := Decode_any 10569226 w
end Go.Proofs.Ytbfhgcnfhjhgcaa
