/-
  The law LineWithin, for any line, spans and bytes: given that Awake answers true.
-/
import Derived.Test.YtlocdkjnefmiaaaWithinLaw
import Derived.Test.YtlocdkjnefmiaaaGCan
import Derived.Test.YtlocdkjnefmiaaaGBack
namespace Go.Proofs.Ytlocdkjnefmiaaa
open Go.RowKit
set_option linter.unusedVariables false
set_option linter.unusedSimpArgs false

theorem temps_ok {ss : List (Int × Int)} {x : List Int} (hse : ∀ j, j < ss.length → -500 ≤ (ss[j]?.getD (0, 0)).1 ∧ (ss[j]?.getD (0, 0)).2 ≤ 1000 ∧ (ss[j]?.getD (0, 0)).1 ≤ (ss[j]?.getD (0, 0)).2) (hx : bytesOk x) :
    (∀ j, j < ss.length → (ss[j]?.getD (0, 0)).1 ≤ (temps ss x ss.length)[j]?.getD 0 ∧ (temps ss x ss.length)[j]?.getD 0 ≤ (ss[j]?.getD (0, 0)).2) ∧ tempsOk (temps ss x ss.length) := by
  have h1 : ∀ j, j < ss.length → (ss[j]?.getD (0, 0)).1 ≤ (temps ss x ss.length)[j]?.getD 0 ∧ (temps ss x ss.length)[j]?.getD 0 ≤ (ss[j]?.getD (0, 0)).2 := fun j hj => by
    rw [temps_get _ _ _ _ hj]
    exact among_bd (hse j hj).2.2 (byteAt_bd hx j)
  refine ⟨h1, fun t ht => ?_⟩
  obtain ⟨j, hj, e⟩ := List.mem_iff_getElem.1 ht
  rw [temps_len] at hj
  have a := h1 j hj
  have b := hse j hj
  rw [List.getElem?_eq_getElem (l := temps ss x ss.length) (by rw [temps_len]; exact hj), Option.getD_some, e] at a
  unfold Temp; omega

set_option maxHeartbeats 1000000 in
theorem within_row (hA : ∀ W, Calls Try.prog 22 #[] W (Ret W (.bool true))) (w : World) (l : Ln) (a : Option Addr) (ca : Nat) (ss : List (Int × Int)) (hlen : Len ss.length) (hx : SpansAt w a ss) (b : Option Addr) (cb : Nat) (x : List Int) (hxl : x.length ≤ 140737488351232) (hxb : bytesOk x) (hy : BytesAt w b x) :
    Calls Try.prog 14 #[l.val, .slice a ss.length ca, .slice b x.length cb] w fun e w' => e = .returned (.bool true) ∧ Below w.heap.size w w' := by
  by_cases hce : canErr l ss = 0
  · obtain ⟨h, hls, he⟩ := canErr_zero hce
    have hse := fun j hj => spanErr_ok (spansErr_zero he j hj)
    obtain ⟨hT, hTok⟩ := temps_ok hse hxb
    have hTl := temps_len ss x ss.length
    obtain ⟨lw, lb, lp, ld, ls, ln⟩ := l
    obtain ⟨h1, h2, _⟩ := id h
    simp only at h1 h2
    obtain ⟨m, rfl⟩ : ∃ m : Nat, lw = (m : Int) := ⟨lw.toNat, by omega⟩
    obtain ⟨n, rfl⟩ : ∃ n : Nat, lb = (n : Int) := ⟨lb.toNat, by omega⟩
    have hmn1 := Nat.mul_le_mul (show 1 ≤ m by omega) (show 1 ≤ n by omega)
    have hmn2 := Nat.mul_le_mul (show m ≤ 64 by omega) (show n ≤ 40 by omega)
    have hnb : (m : Int) * (n : Int) = ((m * n : Nat) : Int) := by simp
    have hwl : ((1 : Int) :: List.replicate (m - 1) 0).length = m := by simp; omega
    have hpl : (pulsesFrom ((1 : Int) :: List.replicate (m - 1) 0) n).length = m * n := by rw [pulsesFrom_len, hwl]
    have hp2 : (2 : Int) ≤ 2 ^ n := by
      obtain ⟨k, rfl⟩ : ∃ k, n = k + 1 := ⟨n - 1, by omega⟩
      rw [Int.pow_succ]
      have : (0 : Int) < 2 ^ k := Int.pow_pos (by omega)
      omega
    have hwok : wordsOk (n : Int) ((1 : Int) :: List.replicate (m - 1) 0) := fun y hy => by
      rw [pw_nat, Int.toNat_natCast]
      rcases List.mem_cons.1 hy with rfl | hy
      · omega
      · have := List.eq_of_mem_replicate hy; omega
    have hp40 : (2 : Int) ^ n ≤ 1099511627776 := (pow_bd (show n ≤ 40 by omega)).2
    generalize hTT : temps ss x ss.length = T at *
    have hpe : passErr ⟨m, n, lp, ld, ls, ln⟩ ((1 : Int) :: List.replicate (m - 1) 0) T = 0 := passErr_ok h (by simp only; omega) hwok (by omega) hTok
    generalize hw0 : (1 : Int) :: List.replicate (m - 1) 0 = W0 at *
    have hP : ∀ W c cc d cd, IntsAt W c W0 → IntsAt W d T → Calls Try.prog 29 #[Ln.val ⟨m, n, lp, ld, ls, ln⟩, .slice c m cc, .slice d ss.length cd] W (RetL W (passOut ⟨m, n, lp, ld, ls, ln⟩ W0 T).1 (passOut ⟨m, n, lp, ld, ls, ln⟩ W0 T).2 0) := fun W c cc d cd g1 g2 => by
      have := Pass_law ⟨m, n, lp, ld, ls, ln⟩ c d cc cd W0 T (by unfold Len; omega) W g1 g2
      unfold passXs passAt at this
      rw [if_pos hpe, if_pos hpe, hpe, hwl, hTl] at this
      exact this
    have hRL : (roundsL ⟨m, n, lp, ld, ls, ln⟩ T (pulsesFrom W0 n) (List.range T.length)).length = m * n := by rw [roundsL_len, hpl]
    have hrot := rounds_rot ⟨m, n, lp, ld, ls, ln⟩ T (pulsesFrom W0 n) (by rw [hpl]; omega)
    have hone : (pulsesFrom W0 n)[0]? = some true := by rw [← hw0]; exact one_pulse m n (by omega) (by omega)
    have hcases : (∃ k : Nat, k < T.length ∧ (passOut ⟨m, n, lp, ld, ls, ln⟩ W0 T).2 = (k : Int) ∧ Ln.rL ⟨m, n, lp, ld, ls, ln⟩ (T[k]?.getD 0) = true) ∨ (passOut ⟨m, n, lp, ld, ls, ln⟩ W0 T = (joined (roundsL ⟨m, n, lp, ld, ls, ln⟩ T (pulsesFrom W0 n) (List.range T.length)) n m, -1) ∧ ∀ j, j < T.length → Ln.rL ⟨m, n, lp, ld, ls, ln⟩ (T[j]?.getD 0) = false) := by
      unfold passOut
      cases hf : firstLost ⟨m, n, lp, ld, ls, ln⟩ T with
      | some k =>
        have g := firstLost_some hf
        exact .inl ⟨k, g.1, rfl, g.2.1⟩
      | none => exact .inr ⟨by simp only [Int.toNat_natCast], firstLost_none hf⟩
    obtain ⟨p, hp⟩ : ∃ p, (sumT ⟨m, n, lp, ld, ls, ln⟩ T T.length % ((m * n : Nat) : Int)).toNat = p := ⟨_, rfl⟩
    have hpn : p < m * n := by
      have := Int.emod_nonneg (sumT ⟨m, n, lp, ld, ls, ln⟩ T T.length) (show ((m * n : Nat) : Int) ≠ 0 by omega)
      have := Int.emod_lt_of_pos (sumT ⟨m, n, lp, ld, ls, ln⟩ T T.length) (show (0 : Int) < ((m * n : Nat) : Int) by omega)
      omega
    rw [hpl, hp] at hrot
    refine within_core hA m n lp ld ls ln h a b ca cb ss hls hse x hxl hxb (passOut ⟨m, n, lp, ld, ls, ln⟩ W0 T).1 (passOut ⟨m, n, lp, ld, ls, ln⟩ W0 T).2 (lostTo ⟨m, n, lp, ld, ls, ln⟩ ss ss.length) (roundsL ⟨m, n, lp, ld, ls, ln⟩ T (pulsesFrom W0 n) (List.range T.length)) (m * n) p hmn2 hRL ?_ ?_ ?_ (by rw [hw0, hTT]; exact hP) ?_ w hx hy
    · intro g
      rcases hcases with ⟨k, hk, _, hl⟩ | ⟨e, _⟩
      · exact lost_reach _ ss T (by rw [hTl]; exact hT) hTl hk hl
      · rw [e] at g; simp at g
    · intro g
      rw [hrot, rot_one _ p (by rw [hpl]; exact hpn)]
      exact hone
    · intro W g
      refine (Can_ret ⟨m, n, lp, ld, ls, ln⟩ h (m * n) hnb a ca ss hls he W g).mono ?_
      rintro e w' ⟨ns, av, cv, rfl, hi, ha, hm, hl, hb⟩
      refine ⟨ns, av, cv, rfl, hi, ⟨fun i hi => ?_, fun i hi => ha i (i + 1) (by omega) hi, hl, fun g => ?_⟩, hb⟩
      · exact Reach.lt (by omega) ((hm _).1 (by simp [hi]))
      · rcases hcases with ⟨k, hk, e, _⟩ | ⟨e, hkeep⟩
        · rw [e] at g; omega
        · refine index_of ((hm p).2 ?_)
          rw [← hp]
          have := reach_sum ⟨m, n, lp, ld, ls, ln⟩ ss T (m * n) hnb (by omega) (by rw [hTl]; exact hT) hkeep T.length (Nat.le_refl _)
          rw [hTl] at this ⊢
          exact this
    · intro g W c cc gx
      rcases hcases with ⟨k, hk, e, _⟩ | ⟨e, hkeep⟩
      · rw [e] at g; omega
      · have hjl : (joined (roundsL ⟨m, n, lp, ld, ls, ln⟩ T (pulsesFrom W0 n) (List.range T.length)) n m).length = m := by simp [joined]
        have hjo := joined_ok (roundsL ⟨m, n, lp, ld, ls, ln⟩ T (pulsesFrom W0 n) (List.range T.length)) n m
        have hpj := pulses_joined n (by omega) m _ hRL
        rw [e] at gx ⊢
        refine (refPulses_any c cc _ n (by rw [hjl]; omega) (by omega) (fun y hy => by have := hjo y hy; omega) W gx).mono ?_
        rintro e' w' ⟨v, rfl, hr, hb⟩
        obtain ⟨a3, c3, rfl, hi3⟩ := rowIntsI hr
        simp only [P01, hpj, List.length_map, hRL] at hi3 ⊢
        exact ⟨a3, c3, rfl, hi3, hb⟩
  · exact within_err hA l a b ca cb x.length ss _ hce (fun W g => Can_err l a ca ss hlen hce W g) w hx
end Go.Proofs.Ytlocdkjnefmiaaa
