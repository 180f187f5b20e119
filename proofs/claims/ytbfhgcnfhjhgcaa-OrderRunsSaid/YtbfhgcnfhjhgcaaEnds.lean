/-
  ending: why a run ends at an order.
-/
import Derived.Test.YtbfhgcnfhjhgcaaMac
namespace Go.Proofs.Ytbfhgcnfhjhgcaa
open Go.RowKit
set_option linter.unusedVariables false
set_option linter.unusedSimpArgs false

def endP (why op taken tl pl u : Int) : Int := if why = 0 then (if op = 0 then 1 else if op = 6 ∧ taken = tl then 2 else if op = 7 ∧ pl = 200 then 3 else if 1000000000 < u then 4 else 0) else why
theorem ends_endP (s : St) : s.ends = endP s.why s.od.op s.taken s.tape.length s.printed.length s.nxt.2 := by
  unfold St.ends endP
  have : (s.od.op = 7 ∧ s.printed.length = 200) ↔ (s.od.op = 7 ∧ (s.printed.length : Int) = 200) := by omega
  simp only [this]
theorem endP_u (why op taken tl pl u : Int) (h : ¬ (op = 6 ∧ taken = tl)) (h2 : ¬ (op = 7 ∧ pl = 200)) (h0 : ¬ op = 0) : endP 0 op taken tl pl u = if 1000000000 < u then 4 else 0 := by
  unfold endP; rw [if_pos rfl, if_neg h0, if_neg h, if_neg h2]
set_option maxRecDepth 100000 in
set_option maxHeartbeats 4000000 in
theorem ending_raw (b cb cc tl pl : Nat) (aa ab : Option Addr) (op fr tt nx a t u why taken r : Int) (hr : endP why op taken tl pl u = r) (w : World)
    (c1 : w.cell? ⟨b, 1, none⟩ = some (.slice aa tl cb)) (c2 : w.cell? ⟨b, 2, none⟩ = some (.int .i64 taken)) (c3 : w.cell? ⟨b, 3, none⟩ = some (.slice ab pl cc)) (c7 : w.cell? ⟨b, 7, none⟩ = some (.int .i64 why)) :
    Calls Try.prog 72 #[.pointer (some ⟨b, 0, none⟩), .agg (spCells a ⟨op, fr, tt, nx⟩ t u)] w (Ret w (.int .i64 r)) := by
  have B0 := Blk.new w (spCells a ⟨op, fr, tt, nx⟩ t u) 57
  have hb := b_alloc (Below.refl w.heap.size w) (.cells (spCells a ⟨op, fr, tt, nx⟩ t u) 57)
  replace c1 := cell_later hb c1
  replace c2 := cell_later hb c2
  replace c3 := cell_later hb c3
  replace c7 := cell_later hb c7
  have HB := hid hb
  have HR := hid hr
  obtain ⟨⟨s0, s1, s2, s3⟩, s4, s5, s6⟩ := spBlk B0
  clear B0 hb hr
  by_cases hw : why = 0
  · subst hw
    by_cases o0 : op = 0
    · subst o0
      have hz := hid (HR.out.symm.trans (show _ = 1 by simp [endP]))
      go_enter Try.func72, Try.ntmps72
      go_wp2
      go_ret
      exact ⟨ret_int hz.out.symm, HB.out⟩
    · have e0 : (op == 0) = false := by simpa using o0
      by_cases o6 : op = 6
      · subst o6
        by_cases ht : taken = tl
        · subst ht
          have hz := hid (HR.out.symm.trans (show _ = 2 by simp [endP]))
          clear o0 e0
          go_enter Try.func72, Try.ntmps72
          go_wp2
          go_quiet (fail)
          go_wp2
          go_ret
          exact ⟨ret_int hz.out.symm, by (repeat (first | assumption | exact Below.refl _ _ | refine b_alloc ?_ _ | refine Below.drew ?_ | refine b_drewN ?_ _ | refine Below.setCell ?_ (by first | omega | (simp; done) | (simp; omega)) _ | refine b_call (by assumption) ?_))⟩
        · have hz := hid (HR.out.symm.trans (endP_u 0 6 taken tl pl u (by simp [ht]) (by simp) (by simp)))
          have e1 : (taken == (tl : Int)) = false := by simpa using ht
          clear o0 e0 ht
          by_cases hu : 1000000000 < u
          · rw [if_pos hu] at hz
            go_enter Try.func72, Try.ntmps72
            go_wp2
            go_quiet (fail)
            go_wp2
            go_ret
            exact ⟨ret_int hz.out.symm, by (repeat (first | assumption | exact Below.refl _ _ | refine b_alloc ?_ _ | refine Below.drew ?_ | refine b_drewN ?_ _ | refine Below.setCell ?_ (by first | omega | (simp; done) | (simp; omega)) _ | refine b_call (by assumption) ?_))⟩
          · rw [if_neg hu] at hz
            go_enter Try.func72, Try.ntmps72
            go_wp2
            go_quiet (fail)
            go_wp2
            go_ret
            exact ⟨ret_int hz.out.symm, by (repeat (first | assumption | exact Below.refl _ _ | refine b_alloc ?_ _ | refine Below.drew ?_ | refine b_drewN ?_ _ | refine Below.setCell ?_ (by first | omega | (simp; done) | (simp; omega)) _ | refine b_call (by assumption) ?_))⟩
      · have e6 : (op == 6) = false := by simpa using o6
        by_cases o7 : op = 7
        · subst o7
          by_cases hp : pl = 200
          · subst hp
            have hz := hid (HR.out.symm.trans (show _ = 3 by simp [endP]))
            clear o0 e0 o6 e6
            go_enter Try.func72, Try.ntmps72
            go_wp2
            (try go_quiet (fail))
            (try go_wp2)
            go_ret
            exact ⟨ret_int hz.out.symm, by (repeat (first | assumption | exact Below.refl _ _ | refine b_alloc ?_ _ | refine Below.drew ?_ | refine b_drewN ?_ _ | refine Below.setCell ?_ (by first | omega | (simp; done) | (simp; omega)) _ | refine b_call (by assumption) ?_))⟩
          · have hz := hid (HR.out.symm.trans (endP_u 0 7 taken tl pl u (by simp) (by simp; omega) (by simp)))
            have e1 : ((pl : Int) == 200) = false := by simp; omega
            clear o0 e0 o6 e6 hp
            by_cases hu : 1000000000 < u
            · rw [if_pos hu] at hz
              go_enter Try.func72, Try.ntmps72
              go_wp2
              (try go_quiet (fail))
              (try go_wp2)
              go_ret
              exact ⟨ret_int hz.out.symm, by (repeat (first | assumption | exact Below.refl _ _ | refine b_alloc ?_ _ | refine Below.drew ?_ | refine b_drewN ?_ _ | refine Below.setCell ?_ (by first | omega | (simp; done) | (simp; omega)) _ | refine b_call (by assumption) ?_))⟩
            · rw [if_neg hu] at hz
              go_enter Try.func72, Try.ntmps72
              go_wp2
              (try go_quiet (fail))
              (try go_wp2)
              go_ret
              exact ⟨ret_int hz.out.symm, by (repeat (first | assumption | exact Below.refl _ _ | refine b_alloc ?_ _ | refine Below.drew ?_ | refine b_drewN ?_ _ | refine Below.setCell ?_ (by first | omega | (simp; done) | (simp; omega)) _ | refine b_call (by assumption) ?_))⟩
        · have hz := hid (HR.out.symm.trans (endP_u 0 op taken tl pl u (by simp [o6]) (by simp [o7]) o0))
          have e7 : (op == 7) = false := by simpa using o7
          clear o0 o6 o7
          by_cases hu : 1000000000 < u
          · rw [if_pos hu] at hz
            go_enter Try.func72, Try.ntmps72
            go_wp2
            (try go_quiet (fail))
            (try go_wp2)
            go_ret
            exact ⟨ret_int hz.out.symm, by (repeat (first | assumption | exact Below.refl _ _ | refine b_alloc ?_ _ | refine Below.drew ?_ | refine b_drewN ?_ _ | refine Below.setCell ?_ (by first | omega | (simp; done) | (simp; omega)) _ | refine b_call (by assumption) ?_))⟩
          · rw [if_neg hu] at hz
            go_enter Try.func72, Try.ntmps72
            go_wp2
            (try go_quiet (fail))
            (try go_wp2)
            go_ret
            exact ⟨ret_int hz.out.symm, by (repeat (first | assumption | exact Below.refl _ _ | refine b_alloc ?_ _ | refine Below.drew ?_ | refine b_drewN ?_ _ | refine Below.setCell ?_ (by first | omega | (simp; done) | (simp; omega)) _ | refine b_call (by assumption) ?_))⟩
  · have hz := hid (HR.out.symm.trans (show _ = why by simp [endP, hw]))
    have e0 : (why != 0) = true := by simpa using hw
    clear hw
    go_enter Try.func72, Try.ntmps72
    go_wp2
    go_ret
    exact ⟨ret_int hz.out.symm, HB.out⟩
end Go.Proofs.Ytbfhgcnfhjhgcaa
