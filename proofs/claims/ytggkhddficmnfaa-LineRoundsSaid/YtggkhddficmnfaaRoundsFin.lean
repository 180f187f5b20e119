/-
  The law LineRounds, walked, for any line, words and temperatures: given that Awake answers true.
-/
import Derived.Test.YtggkhddficmnfaaRoundsLaw
namespace Go.Proofs.Ytggkhddficmnfaa
open Go.RowKit
set_option linter.unusedVariables false
set_option linter.unusedSimpArgs false

set_option maxRecDepth 100000 in
set_option maxHeartbeats 2000000 in
theorem rounds_err (hA : ∀ W, Calls Try.prog 22 #[] W (Ret W (.bool true))) (l : Ln) (a b : Option Addr) (ca cb : Nat) (ws ts : List Int) (pe : Int) (hne : pe ≠ 0)
    (hP : ∀ W, IntsAt W a ws → IntsAt W b ts → Calls Try.prog 29 #[l.val, .slice a ws.length ca, .slice b ts.length cb] W (RetL W [] 0 pe)) (w : World) (hx : IntsAt w a ws) (hy : IntsAt w b ts) :
    Calls Try.prog 12 #[l.val, .slice a ws.length ca, .slice b ts.length cb] w fun e w' => e = .returned (.bool true) ∧ Below w.heap.size w w' := by
  have HA := hid hA
  have HP := hid hP
  have HX := hid hx
  have HY := hid hy
  have hL0 := hid (lnAt_new' l w)
  clear hA hP hx hy
  go_enter Try.func12, Try.ntmps12
  go_wp2_with (first
    | (go_at_call 29; refine (HP.out _ (HX.out.below (by (repeat (first | assumption | exact Below.refl _ _ | refine b_alloc ?_ _ | refine Below.drew ?_ | refine b_drewN ?_ _ | refine Below.setCell ?_ (by first | omega | (simp; done) | (simp; omega)) _ | refine b_call (by assumption) ?_)))) (HY.out.below (by (repeat (first | assumption | exact Below.refl _ _ | refine b_alloc ?_ _ | refine Below.drew ?_ | refine b_drewN ?_ _ | refine Below.setCell ?_ (by first | omega | (simp; done) | (simp; omega)) _ | refine b_call (by assumption) ?_))))).mono ?_; rintro e w1 ⟨a1, c1, rfl, hi, hb1⟩; have HB1 := hid (show Below w.heap.size w w1 by (repeat (first | assumption | exact Below.refl _ _ | refine b_alloc ?_ _ | refine Below.drew ?_ | refine b_drewN ?_ _ | refine Below.setCell ?_ (by first | omega | (simp; done) | (simp; omega)) _ | refine b_call (by assumption) ?_))); clear hb1 hi)
    | (go_at_call 22; refine (HA.out _).mono ?_; rintro e w3 ⟨rfl, hb3⟩; have HB3 := hid (show Below w.heap.size w w3 from b_call hb3 (by have hq := HB1.out; (repeat (first | assumption | exact Below.refl _ _ | refine b_alloc ?_ _ | refine Below.drew ?_ | refine b_drewN ?_ _ | refine Below.setCell ?_ (by first | omega | (simp; done) | (simp; omega)) _ | refine b_call (by assumption) ?_)))); clear hb3))
  go_ret
  exact ⟨rfl, HB3.out⟩

set_option maxHeartbeats 2000000 in
theorem rounds_row (hA : ∀ W, Calls Try.prog 22 #[] W (Ret W (.bool true))) (w : World) (l : Ln) (a : Option Addr) (ca : Nat) (ws : List Int) (hlw : Len ws.length) (hx : IntsAt w a ws) (b : Option Addr) (cb : Nat) (ts : List Int) (hlt : Len ts.length) (hy : IntsAt w b ts) :
    Calls Try.prog 12 #[l.val, .slice a ws.length ca, .slice b ts.length cb] w fun e w' => e = .returned (.bool true) ∧ Below w.heap.size w w' := by
  have hP := fun W gx gy => Pass_law l a b ca cb ws ts hlt W gx gy
  by_cases hpe : passErr l ws ts = 0
  · obtain ⟨h, hwl, hok, hlt6, ht⟩ := passErr_zero hpe
    obtain ⟨lw, lb, lp, ld, ls, ln⟩ := l
    obtain ⟨h1, h2, _⟩ := id h
    simp only at h1 h2 hwl hok
    obtain ⟨m, rfl⟩ : ∃ m : Nat, lw = (m : Int) := ⟨lw.toNat, by omega⟩
    obtain ⟨n, rfl⟩ : ∃ n : Nat, lb = (n : Int) := ⟨lb.toNat, by omega⟩
    have hwl' : ws.length = m := by omega
    have hmn1 := Nat.mul_le_mul (show 1 ≤ m by omega) (show 1 ≤ n by omega)
    have hmn2 := Nat.mul_le_mul (show m ≤ 64 by omega) (show n ≤ 40 by omega)
    have hL : 1 ≤ ws.length * n := by rw [hwl']; omega
    have hpl : (pulsesFrom ws n).length = m * n := by rw [pulsesFrom_len, hwl']
    have hwok : ∀ x ∈ ws, 0 ≤ x ∧ x < 2 ^ n := fun x hx => by
      have := hok x hx
      rw [pw_nat, Int.toNat_natCast] at this
      omega
    have hp40 : (2 : Int) ^ n ≤ 1099511627776 := (pow_bd (show n ≤ 40 by omega)).2
    have hrev : passErr ⟨m, n, lp, ld, ls, ln⟩ ws ts.reverse = 0 := passErr_ok h (by simp only; omega) hok (by simpa using hlt6) (tempsOk_rev ht)
    have hxs : passXs ⟨m, n, lp, ld, ls, ln⟩ ws ts = (passOut ⟨m, n, lp, ld, ls, ln⟩ ws ts).1 := by unfold passXs; rw [if_pos hpe]
    have hat : passAt ⟨m, n, lp, ld, ls, ln⟩ ws ts = (passOut ⟨m, n, lp, ld, ls, ln⟩ ws ts).2 := by unfold passAt; rw [if_pos hpe]
    rw [hxs, hat, hpe] at hP
    have hP2 : ∀ W c cc, IntsAt W a ws → IntsAt W c ts.reverse → Calls Try.prog 29 #[Ln.val ⟨m, n, lp, ld, ls, ln⟩, .slice a ws.length ca, .slice c ts.length cc] W (RetL W (passOut ⟨m, n, lp, ld, ls, ln⟩ ws ts).1 (passAt ⟨m, n, lp, ld, ls, ln⟩ ws ts.reverse) 0) := fun W c cc g1 g2 => by
      have := Pass_law ⟨m, n, lp, ld, ls, ln⟩ a c ca cc ws ts.reverse (by rw [List.length_reverse]; exact hlt) W g1 g2
      rw [hrev, List.length_reverse] at this
      unfold passXs at this
      rw [if_pos hrev, passOut_rev _ ws ts n (by simp) hL] at this
      exact this
    have hsb := sumT_bd h ht ts.length (Nat.le_refl _)
    have hRL : (roundsL ⟨m, n, lp, ld, ls, ln⟩ ts (pulsesFrom ws n) (List.range ts.length)).length = m * n := by rw [roundsL_len, hpl]
    obtain ⟨R, hR⟩ : ∃ R, roundsL ⟨m, n, lp, ld, ls, ln⟩ ts (pulsesFrom ws n) (List.range ts.length) = R := ⟨_, rfl⟩
    have hrot := rounds_rot ⟨m, n, lp, ld, ls, ln⟩ ts (pulsesFrom ws n) (by rw [hpl]; omega)
    have hcR : cnt R = cnt (pulsesFrom ws n) := by rw [← hR, cnt_rounds]
    rw [hR] at hRL hrot
    have hq : lateL (P01 ws n) (sumT ⟨m, n, lp, ld, ls, ln⟩ ts ts.length) = R.map p01 := by
      rw [hrot]; exact lateL_rot _ _ (by rw [hpl]; omega)
    have hcases : (∃ k : Nat, k < ts.length ∧ passOut ⟨m, n, lp, ld, ls, ln⟩ ws ts = (List.replicate m 0, (k : Int)) ∧ Ln.rL ⟨m, n, lp, ld, ls, ln⟩ (ts[k]?.getD 0) = true ∧ ∀ j, j < k → Ln.rL ⟨m, n, lp, ld, ls, ln⟩ (ts[j]?.getD 0) = false) ∨ (passOut ⟨m, n, lp, ld, ls, ln⟩ ws ts = (joined R n m, -1) ∧ ∀ j, j < ts.length → Ln.rL ⟨m, n, lp, ld, ls, ln⟩ (ts[j]?.getD 0) = false) := by
      unfold passOut
      cases hf : firstLost ⟨m, n, lp, ld, ls, ln⟩ ts with
      | some k =>
        have g := firstLost_some hf
        exact .inl ⟨k, g.1, by simp, g.2⟩
      | none => exact .inr ⟨by simp only [Int.toNat_natCast]; rw [hR], firstLost_none hf⟩
    have hx64 : (passOut ⟨m, n, lp, ld, ls, ln⟩ ws ts).1.length = m := by
      rcases hcases with ⟨k, _, e, _⟩ | ⟨e, _⟩ <;> rw [e] <;> simp [joined]
    have hxok : ∀ x ∈ (passOut ⟨m, n, lp, ld, ls, ln⟩ ws ts).1, 0 ≤ x ∧ x < 2 ^ n := by
      rcases hcases with ⟨k, _, e, _⟩ | ⟨e, _⟩ <;> rw [e]
      · intro x hx
        have := List.eq_of_mem_replicate hx
        have : (0 : Int) < 2 ^ n := Int.pow_pos (by omega)
        omega
      · exact joined_ok R n m
    have hkz : 0 ≤ (passOut ⟨m, n, lp, ld, ls, ln⟩ ws ts).2 → cnt (pulsesFrom (passOut ⟨m, n, lp, ld, ls, ln⟩ ws ts).1 n) = 0 := by
      intro g
      rcases hcases with ⟨k, _, e, _⟩ | ⟨e, _⟩
      · rw [e, ← joined_zeros n m, pulses_joined n (by omega) m _ (by simp)]
        exact cnt_zeros _
      · rw [e] at g; simp at g
    have hkw : (passOut ⟨m, n, lp, ld, ls, ln⟩ ws ts).2 < 0 → (passOut ⟨m, n, lp, ld, ls, ln⟩ ws ts).1 = joined R n m := by
      intro g
      rcases hcases with ⟨k, _, e, _⟩ | ⟨e, _⟩
      · rw [e] at g; simp only at g; omega
      · rw [e]
    have hat01 : -1 ≤ (passOut ⟨m, n, lp, ld, ls, ln⟩ ws ts).2 ∧ (passOut ⟨m, n, lp, ld, ls, ln⟩ ws ts).2 < ts.length := by
      rcases hcases with ⟨k, hk, e, _⟩ | ⟨e, _⟩ <;> rw [e] <;> simp only <;> omega
    have hlost : ∀ j, j < ts.length → ((Ln.rL ⟨m, n, lp, ld, ls, ln⟩ (ts[j]?.getD 0) = true ∧ 0 ≤ (passOut ⟨m, n, lp, ld, ls, ln⟩ ws ts).2 ∧ (passOut ⟨m, n, lp, ld, ls, ln⟩ ws ts).2 ≤ j) ∨ (Ln.rL ⟨m, n, lp, ld, ls, ln⟩ (ts[j]?.getD 0) = false ∧ (passOut ⟨m, n, lp, ld, ls, ln⟩ ws ts).2 ≠ j)) := by
      intro j hj
      rcases hcases with ⟨k, hk, e, e2, e3⟩ | ⟨e, e2⟩
      · rw [e]
        cases hr : Ln.rL ⟨m, n, lp, ld, ls, ln⟩ (ts[j]?.getD 0) with
        | true =>
          refine .inl ⟨rfl, by simp only; omega, ?_⟩
          simp only
          by_cases g : j < k
          · rw [e3 j g] at hr; cases hr
          · omega
        | false =>
          refine .inr ⟨rfl, ?_⟩
          simp only
          intro g
          have : k = j := by omega
          rw [this, hr] at e2; cases e2
      · rw [e]
        exact .inr ⟨e2 j hj, by simp only; omega⟩
    clear hxs hat hrot hcases hR
    generalize passOut ⟨m, n, lp, ld, ls, ln⟩ ws ts = po at *
    obtain ⟨xs, at1⟩ := po
    simp only at *
    refine rounds_core hA m n lp ld ls ln h a b ca cb ws ts hlt6 ht w hx hy xs at1 _ (by omega) hat01 hlost (P01 ws n) (R.map p01) (m * n) (cnt (pulsesFrom xs n)) (by simp [hpl]) (by simp [hRL]) hkz ?_ ?_ ?_ ?_ ?_ hP hP2
    · intro W c cc g
      exact ones_any c cc xs n (by omega) (by omega) hxok W g
    · intro g W gx
      have := ones_any a ca ws n (by omega) (by omega) hwok W gx
      rw [hkw g, pulses_joined n (by omega) m R hRL, hcR]
      exact this
    · intro W g
      refine (refPulses_any a ca ws n (by omega) (by omega) (fun x hx => by have := hwok x hx; omega) W g).mono ?_
      rintro e w' ⟨v, rfl, hr, hb⟩
      obtain ⟨a3, c3, rfl, hi3⟩ := rowIntsI hr
      exact ⟨a3, c3, by rw [List.length_map, hpl], hi3, hb⟩
    · intro W c cc g
      have := refLate_any c cc (P01 ws n) (sumT ⟨m, n, lp, ld, ls, ln⟩ ts ts.length) (by simp [hpl]; omega) (by omega) W g
      rw [hq, show (P01 ws n).length = m * n by simp [hpl]] at this
      refine this.mono ?_
      rintro e w' ⟨g2, rfl, hr, hb⟩
      exact ⟨_, _, rfl, intsOfRow hr, hb⟩
    · intro gneg W c cc g
      have := refJoined_any c cc R n m (by omega) (by omega) hRL W g
      rw [hRL] at this
      refine this.mono ?_
      rintro e w' ⟨g2, rfl, hr, hb⟩
      rw [hkw gneg, show (joined R n m).length = m by simp [joined]]
      exact ⟨_, _, rfl, intsOfRow hr, hb⟩
  · have hP' : ∀ W, IntsAt W a ws → IntsAt W b ts → Calls Try.prog 29 #[l.val, .slice a ws.length ca, .slice b ts.length cb] W (RetL W [] 0 (passErr l ws ts)) := fun W gx gy => by
      have := hP W gx gy
      unfold passXs passAt at this
      rw [if_neg hpe, if_neg hpe] at this
      exact this
    exact rounds_err hA l a b ca cb ws ts _ hpe hP' w hx hy
end Go.Proofs.Ytggkhddficmnfaa
