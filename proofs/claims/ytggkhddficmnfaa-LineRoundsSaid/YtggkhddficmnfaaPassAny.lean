/-
  Pass: what it returns where there is an error; the fence taken off.
-/
import Derived.Test.YtggkhddficmnfaaPassMain
namespace Go.Proofs.Ytggkhddficmnfaa
open Go.RowKit Go.Shelf
set_option linter.unusedVariables false
set_option linter.unusedSimpArgs false
attribute [local go_sem] Oper.semAt_some

theorem Pass_ok (l : Ln) (h : l.Ok) (m n : Nat) (hm : l.W = (m : Int)) (hn : l.B = (n : Int)) (a b : Option Addr) (ca cb : Nat) (ws ts : List Int) (hwl : (ws.length : Int) = l.W) (hok : wordsOk l.B ws) (hlt : ts.length ≤ 60) (ht : tempsOk ts) (w : World) (hx : IntsAt w a ws) (hy : IntsAt w b ts)
    (xs : List Int) (at' : Int) (hkeep : keepsTo l ts ts.length → xs = joined (roundsL l ts (pulsesFrom ws n) (List.range ts.length)) n m ∧ at' = -1) (hlose : ∀ k, k < ts.length → keepsTo l ts k → l.rL (ts[k]?.getD 0) = true → xs = List.replicate m 0 ∧ at' = k) :
    Calls Try.prog 29 #[l.val, .slice a ws.length ca, .slice b ts.length cb] w (RetP w xs at') :=
  callsIn_wide.1 (Pass_in l h m n hm hn a b ca cb ws ts hwl hok hlt ht w hx hy xs at' hkeep hlose)

set_option maxRecDepth 100000 in
set_option maxHeartbeats 1000000 in
theorem Pass_err (l : Ln) (a b : Option Addr) (ca cb : Nat) (ws ts : List Int) (hle : Len ts.length) (hne : passErr l ws ts ≠ 0) (w : World) (hx : IntsAt w a ws) (hy : IntsAt w b ts) :
    Calls Try.prog 29 #[l.val, .slice a ws.length ca, .slice b ts.length cb] w (Ret w (.tuple #[.slice none 0 0, .int .i64 0, .int .i64 (passErr l ws ts)])) := by
  have HX := hid hx
  have HY := hid hy
  clear hx hy
  refine calls_of_wp Try.func29 rfl ?_
  simp only [Try.ntmps29, List.size_toArray, List.length_cons, List.length_nil, Nat.reduceAdd, Nat.reduceSub, Array.replicate_succ, Array.replicate_zero, List.push_toArray, List.append_toArray, List.nil_append, List.cons_append]
  have r0 := hid (((Boxed.new (w.alloc (.cells #[.int .i64 l.W, .int .i64 l.B, .int .i64 l.P, .int .i64 l.D, .int .i64 l.S, .int .i64 l.N] 25)) 35 (.slice none 0 0)).alloc (.cells #[.int .i64 0] 3)).alloc (.cells #[.int .i64 0] 26))
  have r1 := hid ((Boxed.new ((w.alloc (.cells #[.int .i64 l.W, .int .i64 l.B, .int .i64 l.P, .int .i64 l.D, .int .i64 l.S, .int .i64 l.N] 25)).alloc (.cells #[.slice none 0 0] 35)) 3 (.int .i64 0)).alloc (.cells #[.int .i64 0] 26))
  have r2 := hid (Boxed.new (((w.alloc (.cells #[.int .i64 l.W, .int .i64 l.B, .int .i64 l.P, .int .i64 l.D, .int .i64 l.S, .int .i64 l.N] 25)).alloc (.cells #[.slice none 0 0] 35)).alloc (.cells #[.int .i64 0] 3)) 26 (.int .i64 0))
  go_wp2_with (go_at_call 63; refine (passError_any l a b ca cb ws ts hle _ (by exact HX.out.below (by (repeat (first | assumption | exact Below.refl _ _ | refine b_alloc ?_ _ | refine Below.drew ?_ | refine b_drewN ?_ _ | refine Below.setCell ?_ (by first | omega | (simp; done) | (simp; omega)) _ | refine b_call (by assumption) ?_)))) (by exact HY.out.below (by (repeat (first | assumption | exact Below.refl _ _ | refine b_alloc ?_ _ | refine Below.drew ?_ | refine b_drewN ?_ _ | refine Below.setCell ?_ (by first | omega | (simp; done) | (simp; omega)) _ | refine b_call (by assumption) ?_))))).mono ?_; rintro e w1 ⟨rfl, hb1⟩; have hB1 := hid (show Below w.heap.size w w1 by (repeat (first | assumption | exact Below.refl _ _ | refine b_alloc ?_ _ | refine Below.drew ?_ | refine b_drewN ?_ _ | refine Below.setCell ?_ (by first | omega | (simp; done) | (simp; omega)) _ | refine b_call (by assumption) ?_))); have s0 := boxed_call r0.out hb1; have s1 := boxed_call r1.out hb1; have s2 := boxed_call r2.out hb1; generalize passErr l ws ts = pe at *; simp only [World.size_alloc] at s0 s1 s2; have e1 := s0.cell; have e1' := s0.frozen; have e2 := (s1.other (B' := w.heap.size + 1) (by omega) (.slice none 0 0)).cell; have e2' := (s1.other (B' := w.heap.size + 1) (by omega) (.slice none 0 0)).frozen; have e3 := ((s2.other (B' := w.heap.size + 1) (by omega) (.slice none 0 0)).other (B' := w.heap.size + 1 + 1) (by omega) (.int .i64 0)).cell; have e3' := ((s2.other (B' := w.heap.size + 1) (by omega) (.slice none 0 0)).other (B' := w.heap.size + 1 + 1) (by omega) (.int .i64 0)).frozen; have S0 := hid s0; have S1 := hid s1; have S2 := hid s2; clear hb1 r0 r1 r2 s0 s1 s2)
  have y1 := ((S0.out.set (.slice none 0 0)).other (B' := w.heap.size + 1 + 1) (by omega) (.int .i64 0)).other (B' := w.heap.size + 1 + 1 + 1) (by omega) (.int .i64 pe)
  have y2 := ((S1.out.other (B' := w.heap.size + 1) (by omega) (.slice none 0 0)).set (.int .i64 0)).other (B' := w.heap.size + 1 + 1 + 1) (by omega) (.int .i64 pe)
  have y3 := ((S2.out.other (B' := w.heap.size + 1) (by omega) (.slice none 0 0)).other (B' := w.heap.size + 1 + 1) (by omega) (.int .i64 0)).set (.int .i64 pe)
  have yb := ((hB1.out.setCell (p := ⟨w.heap.size + 1, 0, none⟩) (by simp) (.slice none 0 0)).setCell (p := ⟨w.heap.size + 1 + 1, 0, none⟩) (by simp; omega) (.int .i64 0)).setCell (p := ⟨w.heap.size + 1 + 1 + 1, 0, none⟩) (by simp; omega) (.int .i64 pe)
  have z1 := y1.cell
  have z2 := y2.cell
  have z3 := y3.cell
  refine ⟨rfl, .tuple #[.slice none 0 0, .int .i64 0, .int .i64 pe], ?_, rfl, yb⟩
  simp [results, Try.f29, go_sem, z1, z2, z3]
end Go.Proofs.Ytggkhddficmnfaa
