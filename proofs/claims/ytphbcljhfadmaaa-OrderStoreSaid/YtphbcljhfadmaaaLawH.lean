/-
  OrderStore: an order changes at most the word at To.
-/
import Derived.Test.YtphbcljhfadmaaaLawF
import Derived.Test.YtphbcljhfadmaaaLawG
namespace Go.Proofs.Ytphbcljhfadmaaa
open Go.RowKit
set_option linter.unusedVariables false
set_option linter.unusedSimpArgs false

set_option maxRecDepth 100000 in
set_option maxHeartbeats 8000000 in
theorem store_any (hA : AwakeTrue) (w : World) (q : Sl) (s : St) (hl : StLen s) (hx : StAt w q s) : Calls Try.prog 13 #[stVal q s] w (Ret w (.bool true)) := by
  by_cases he : askErr s 1 = 0
  · obtain ⟨hs, _, _⟩ := ask_ok he
    have hR := fun W g => Run_cap q s 1 he W g
    have hT := fun W g => Trace_any q s hl 1 W g
    have e1 : runOf s 1 = if s.ends = 0 then s.step else s.stop := by unfold runOf; rw [if_pos he]; exact run1 s
    have e2 : traceOf s 1 = if s.ends = 0 then [s.stp] else [] := by unfold traceOf; rw [if_pos he]; exact trace1 s
    have hlen : s.store.length = 128 := hs.len.1
    rw [he] at hT
    rw [e1] at hR
    rw [e2] at hT
    by_cases hen : s.ends = 0
    · rw [if_pos hen] at hR hT
      obtain ⟨S2, tk, P, ys, e, h1, h2, h3, h4⟩ := deed_parts s s.od hs.od.2.2.1.1 hlen
      have es : s.step = ⟨S2, s.tape, tk, P, s.nxt.2, s.nxt.1, s.done + 1, s.why⟩ := by unfold St.step; rw [e]
      rw [es] at hR
      exact store_step hA w q s hl hx S2 P ys tk _ _ _ _ s.stp hlen h1 h2 h3 h4 hR hT
    · rw [if_neg hen] at hR hT
      exact store_stop hA w q s hl hx s.store s.printed [] s.taken _ _ _ _ hlen rfl (by simp) (fun k hk => rfl) ⟨rfl, rfl⟩ hR hT
  · have HA := hid hA
    have HX := hid hx
    have hR := fun W g => Run_any q s hl 1 W g
    have hne : (askErr s 1 != 0) = true := by simpa using he
    generalize askErr s 1 = er at *
    generalize runOf s 1 = t at *
    have HR := hid hR
    clear hR he hA hx
    go_enter Try.func13, Try.ntmps13
    go_wp2_with (first
      | (go_at_call 31; refine (HR.out _ (HX.out.below (b_alloc (Below.refl w.heap.size w) _))).mono ?_; rintro e w1 ⟨q1, rfl, hs1, hb1⟩; have HB1 := hid (b_call hb1 (b_alloc (Below.refl w.heap.size w) _)); clear hb1 hs1)
      | (go_at_call 23; refine (HA.out _).mono ?_; rintro e w7 ⟨rfl, hb7⟩; have HB7 := hid (show Below w.heap.size w w7 from b_call hb7 (by have hq := HB1.out; (repeat (first | assumption | exact Below.refl _ _ | refine b_alloc ?_ _ | refine Below.drew ?_ | refine b_drewN ?_ _ | refine Below.setCell ?_ (by first | omega | (simp; done) | (simp; omega)) _ | refine b_call (by assumption) ?_)))); clear hb7))
    go_ret
    exact ⟨rfl, HB7.out⟩
end Go.Proofs.Ytphbcljhfadmaaa
