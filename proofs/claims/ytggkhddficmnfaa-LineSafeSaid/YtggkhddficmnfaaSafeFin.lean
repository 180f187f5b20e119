/-
  The law LineSafe, walked, for any line, words and temperature: given that Awake answers true.
-/
import Derived.Test.YtggkhddficmnfaaSafeLaw
namespace Go.Proofs.Ytggkhddficmnfaa
open Go.RowKit
set_option linter.unusedVariables false
set_option linter.unusedSimpArgs false

theorem bits_zero (n : Nat) : bitsOf 0 n = List.replicate n false := by
  apply List.ext_getElem
  · simp [bitsOf]
  · intro i h1 h2; simp [bitsOf, bitOf]
theorem bits_one (n : Nat) (hn : 1 ≤ n) : bitsOf 1 n = true :: List.replicate (n - 1) false := by
  obtain ⟨k, rfl⟩ : ∃ k, n = k + 1 := ⟨n - 1, by omega⟩
  apply List.ext_getElem
  · simp [bitsOf]
  · intro i h1 h2
    cases i with
    | zero => simp [bitsOf, bitOf]
    | succ i =>
      have hp : (1 : Int) / 2 ^ (i + 1) = 0 := by
        refine Int.ediv_eq_zero_of_lt (by omega) ?_
        have h2 : 1 ≤ (2 : Nat) ^ i := Nat.one_le_two_pow
        have c : ((2 ^ i : Nat) : Int) = (2 : Int) ^ i := by simp
        rw [Int.pow_succ]; omega
      simp [bitsOf, bitOf, hp]
theorem pulses_zeros (n : Nat) : ∀ k, pulsesFrom (List.replicate k 0) n = List.replicate (k * n) false
  | 0 => by simp [pulsesFrom]
  | k + 1 => by
    rw [List.replicate_succ, pulses_cons, bits_zero, pulses_zeros n k, List.replicate_append_replicate, Nat.succ_mul, Nat.add_comm]
theorem pulses_one (m n : Nat) (hm : 1 ≤ m) (hn : 1 ≤ n) : pulsesFrom (1 :: List.replicate (m - 1) 0) n = true :: List.replicate (m * n - 1) false := by
  rw [pulses_cons, bits_one n hn, pulses_zeros, List.cons_append, List.replicate_append_replicate]
  obtain ⟨k, rfl⟩ : ∃ k, m = k + 1 := ⟨m - 1, by omega⟩
  rw [Nat.succ_mul, Nat.add_sub_cancel, show n - 1 + k * n = k * n + n - 1 by omega]
theorem rot_one (M p : Nat) (h0 : 1 ≤ p) (h1 : p < M) : ∃ r, rot (true :: List.replicate (M - 1) false) p = false :: r := by
  unfold rot
  simp only [List.length_cons, List.length_replicate]
  rw [show M - 1 + 1 - p = (M - 1 - p) + 1 by omega, List.drop_succ_cons, List.drop_replicate]
  obtain ⟨k, hk⟩ : ∃ k, M - 1 - (M - 1 - p) = k + 1 := ⟨M - 1 - (M - 1 - p) - 1, by omega⟩
  rw [hk, List.replicate_succ]
  exact ⟨_, rfl⟩
theorem joined_head_even (r : List Bool) (n m : Nat) (hn : 1 ≤ n) (hm : 1 ≤ m) (xs : List Int) : joined (false :: r) n m ≠ 1 :: xs := by
  intro e
  unfold joined at e
  obtain ⟨k, rfl⟩ : ∃ k, m = k + 1 := ⟨m - 1, by omega⟩
  rw [List.range_succ_eq_map, List.map_cons] at e
  have h := (List.cons.inj e).1
  unfold wordAt at h
  obtain ⟨j, rfl⟩ : ∃ j, n = j + 1 := ⟨n - 1, by omega⟩
  rw [List.take_length, Nat.zero_mul, List.drop_zero, List.take_succ_cons, val] at h
  simp at h
  omega
/-- One pulse, after a round. -/
theorem one_after (m n : Nat) (hm : 1 ≤ m) (hn : 1 ≤ n) (s : Int) :
    decide (joined (rot (pulsesFrom (1 :: List.replicate (m - 1) 0) n) (s % ((pulsesFrom (1 :: List.replicate (m - 1) 0) n).length : Int)).toNat) n m = 1 :: List.replicate (m - 1) 0) = decide (s.tmod ((m : Int) * (n : Int)) = 0) := by
  have hl : (pulsesFrom (1 :: List.replicate (m - 1) 0) n).length = m * n := by
    rw [pulsesFrom_len]; simp; rw [show m - 1 + 1 = m by omega]
  have hM : 1 ≤ m * n := Nat.mul_le_mul hm hn
  have hc : ((m * n : Nat) : Int) = (m : Int) * (n : Int) := by simp
  rw [hl, ← hc]
  have h0 := Int.emod_nonneg s (show ((m * n : Nat) : Int) ≠ 0 by omega)
  have h1 := Int.emod_lt_of_pos s (show (0 : Int) < ((m * n : Nat) : Int) by omega)
  have hd : s.tmod ((m * n : Nat) : Int) = 0 ↔ s % ((m * n : Nat) : Int) = 0 := by
    rw [← Int.dvd_iff_tmod_eq_zero, ← Int.dvd_iff_emod_eq_zero]
  rw [decide_eq_decide, hd]
  constructor
  · intro e
    by_cases g : s % ((m * n : Nat) : Int) = 0
    · exact g
    · rw [pulses_one m n hm hn] at e
      obtain ⟨r, hr⟩ := rot_one (m * n) (s % ((m * n : Nat) : Int)).toNat (by omega) (by omega)
      rw [hr] at e
      exact absurd e (joined_head_even r n m hn hm _)
  · intro g
    rw [g, show (0 : Int).toNat = 0 from rfl, rot_zero]
    have hw : ∀ x ∈ (1 : Int) :: List.replicate (m - 1) 0, 0 ≤ x ∧ x < 2 ^ n := by
      have hp : (2 : Int) ≤ 2 ^ n := by
        have h2 : (2 : Nat) ^ 1 ≤ 2 ^ n := Nat.pow_le_pow_right (by omega) hn
        have c : ((2 ^ n : Nat) : Int) = (2 : Int) ^ n := by simp
        omega
      intro x hx
      rcases List.mem_cons.1 hx with rfl | hx
      · omega
      · rw [List.eq_of_mem_replicate hx]; omega
    have := joined_pulses hw
    rwa [List.length_cons, List.length_replicate, show m - 1 + 1 = m by omega] at this

theorem passErr_ok {l : Ln} {ws ts : List Int} (h : l.Ok) (h1 : (ws.length : Int) = l.W) (h2 : wordsOk l.B ws) (h3 : ts.length ≤ 60) (h4 : tempsOk ts) : passErr l ws ts = 0 := by
  unfold passErr wordsErr wErr tErr
  rw [if_pos h, if_pos h1, if_pos h2, if_pos rfl, if_pos h3, if_pos h4]

set_option maxRecDepth 100000 in
set_option maxHeartbeats 1000000 in
theorem safe_law (hA : ∀ W, Calls Try.prog 22 #[] W (Ret W (.bool true))) (l : Ln) (a : Option Addr) (ca : Nat) (ws : List Int) (hlw : Len ws.length) (t : Int) (w : World) (hx : IntsAt w a ws) :
    Calls Try.prog 11 #[l.val, .slice a ws.length ca, .int .i64 t] w fun e w' => e = .returned (.bool true) ∧ Below w.heap.size w w' := by
  have hS := fun W => Safe_any l W
  unfold Ln.safeV at hS
  by_cases h : l.Ok
  · rw [if_pos h] at hS
    obtain ⟨lo, hi, er, her, hS⟩ : ∃ lo hi er : Int, (er = 0 ∧ l.ends = (lo, hi, true) ∨ er = 9 ∧ l.ends.2.2 = false) ∧ ∀ W, Calls Try.prog 27 #[l.val] W (Ret W (.tuple #[.agg #[.int .i64 lo, .int .i64 hi], .int .i64 er])) := by
      cases hf : l.ends.2.2 with
      | true => rw [hf, if_pos rfl] at hS; exact ⟨_, _, 0, .inl ⟨rfl, by rw [← hf]⟩, hS⟩
      | false => rw [hf, if_neg (by simp)] at hS; exact ⟨0, 0, 9, .inr ⟨rfl, rfl⟩, hS⟩
    by_cases ht : Temp t
    · have hsp := safe_span h ht
      have hH := fun W => Shift_any l t W
      unfold Ln.shiftV at hH
      rw [if_pos ⟨h, ht⟩] at hH
      have hP1 := fun W b cb => Pass_law l a b ca cb ws [t] (by simp) W
      have hh := h
      obtain ⟨lw, lb, lp, ld, ls, ln⟩ := l
      obtain ⟨h1, h2, _⟩ := id h
      simp only at h1 h2
      obtain ⟨m, rfl⟩ : ∃ m : Nat, lw = (m : Int) := ⟨lw.toNat, by omega⟩
      obtain ⟨n, rfl⟩ : ∃ n : Nat, lb = (n : Int) := ⟨lb.toNat, by omega⟩
      have hone : passErr ⟨m, n, lp, ld, ls, ln⟩ (1 :: List.replicate (m - 1) 0) [t] = 0 := by
        refine passErr_ok h (by simp; omega) (fun x hx => ?_) (by simp) (fun x hx => by simp at hx; rw [hx]; exact ht)
        have hp : 2 ≤ pw (n : Int) := by have := pw_mono (show (1 : Int) ≤ (n : Int) by omega); have e : pw 1 = 2 := by decide
                                         omega
        rcases List.mem_cons.1 hx with rfl | hx
        · exact ⟨by omega, by simp only; omega⟩
        · rw [List.eq_of_mem_replicate hx]; exact ⟨by omega, by simp only; omega⟩
      have hP2 := fun W c cc b cb => Pass_law ⟨m, n, lp, ld, ls, ln⟩ c b cc cb (1 :: List.replicate (m - 1) 0) [t] (by simp) W
      rw [hone] at hP2
      rw [show (1 :: List.replicate (m - 1) (0 : Int)).length = m by simp; omega] at hP2
      have ex : passXs ⟨m, n, lp, ld, ls, ln⟩ (1 :: List.replicate (m - 1) 0) [t] = (passOut ⟨m, n, lp, ld, ls, ln⟩ (1 :: List.replicate (m - 1) 0) [t]).1 := if_pos hone
      have ea : passAt ⟨m, n, lp, ld, ls, ln⟩ (1 :: List.replicate (m - 1) 0) [t] = (passOut ⟨m, n, lp, ld, ls, ln⟩ (1 :: List.replicate (m - 1) 0) [t]).2 := if_pos hone
      unfold passOut at ex ea
      rw [one_round _ []] at ex ea
      simp only [Int.toNat_natCast] at ex ea
      unfold Ln.safe at hsp
      have hin2 : (decide (er = 0) && (if er = 0 then decide (lo ≤ t) else true) && (if er = 0 then decide (t ≤ hi) else true)) = decide ((Ln.mk m n lp ld ls ln).shift t = some 0) := by
        rw [Bool.eq_iff_iff, decide_eq_true_eq, hsp]
        rcases her with ⟨rfl, e⟩ | ⟨rfl, e⟩
        · simp [e]
        · simp [e]
      cases hs : (Ln.mk m n lp ld ls ln).shift t with
      | none =>
        have hl : (Ln.mk m n lp ld ls ln).rL t = true := by unfold Ln.rL; rw [hs]; rfl
        rw [hl] at ex ea
        rw [hs] at hH hin2
        refine safeLaw_core hA m n lp ld ls ln h a ca ws hlw t er lo hi 0 ht _ _ true ?_ hin2 _ _ _ _ _ ?_ ?_ hS hH hP1 hP2 ?_ ?_ w hx
        · rcases her with ⟨rfl, e⟩ | ⟨rfl, e⟩ <;> simp
        · rw [ex]; simp; omega
        · intro e1 e2 e3 e4
          rw [e1] at e2 e3 hin2
          simp only [if_true] at e2 e3 hin2
          rw [e2, e3] at hin2
          simp at hin2
        · rw [ex]
          simp only [if_true, Bool.not_true, Bool.false_and, decide_eq_false_iff_not]
          obtain ⟨k, rfl⟩ : ∃ k, m = k + 1 := ⟨m - 1, by omega⟩
          rw [List.replicate_succ]
          simp
        · rw [ea]; simp
      | some s =>
        have hl : (Ln.mk m n lp ld ls ln).rL t = false := by unfold Ln.rL; rw [hs]; rfl
        have hr : (Ln.mk m n lp ld ls ln).rS t = s := by unfold Ln.rS; rw [hs]; rfl
        rw [hl] at ex ea
        rw [hs] at hH hin2
        have hro : ∀ ps, roundsL ⟨m, n, lp, ld, ls, ln⟩ [t] ps (List.range [t].length) = rot ps (s % (ps.length : Int)).toNat := by
          intro ps; simp [roundsL, List.range_succ, hr]
        refine safeLaw_core hA m n lp ld ls ln h a ca ws hlw t er lo hi s ht _ _ false ?_ (hin2.trans (by simp)) _ _ _ _ _ ?_ ?_ hS hH hP1 hP2 ?_ ?_ w hx
        · rcases her with ⟨rfl, e⟩ | ⟨rfl, e⟩ <;> simp
        · rw [ex]; simp [joined]; omega
        · intro e1 e2 e3 e4
          rw [e1] at e2 e3 hin2
          simp only [if_true] at e2 e3 hin2
          rw [e2, e3] at hin2
          have hs0 : s = 0 := by simpa using hin2.symm
          have e5 : passXs ⟨m, n, lp, ld, ls, ln⟩ ws [t] = (passOut ⟨m, n, lp, ld, ls, ln⟩ ws [t]).1 := if_pos e4
          have e6 : passAt ⟨m, n, lp, ld, ls, ln⟩ ws [t] = (passOut ⟨m, n, lp, ld, ls, ln⟩ ws [t]).2 := if_pos e4
          unfold passOut at e5 e6
          rw [one_round _ [], hl] at e5 e6
          refine ⟨e6, e5.trans ?_⟩
          simp only [Int.toNat_natCast, Bool.false_eq_true, if_false]
          rw [hro, hs0, Int.zero_emod, show (0 : Int).toNat = 0 from rfl, rot_zero]
          obtain ⟨_, g1, g2, _⟩ := passErr_zero e4
          simp only at g1 g2
          have hlen : ws.length = m := by omega
          rw [← hlen]
          refine joined_pulses (fun x hx => ?_)
          have := g2 x hx
          rw [pw_nat, Int.toNat_natCast] at this
          omega
        · rw [ex]
          simp only [Bool.false_eq_true, if_false, Bool.not_false, Bool.true_and]
          rw [hro]
          exact one_after m n (by omega) (by omega) s
        · rw [ea]; simp
    · refine safeLaw_no hA l a ca ws.length t er lo hi (.inr ⟨?_, ht⟩) hS w
      rcases her with ⟨h, _⟩ | ⟨h, _⟩
      · exact .inl h
      · exact .inr h
  · rw [if_neg h] at hS
    exact safeLaw_no hA l a ca ws.length t 7 0 0 (.inl ⟨rfl, rfl, rfl⟩) hS w
theorem safe_row (hA : ∀ W, Calls Try.prog 22 #[] W (Ret W (.bool true))) (w : World) (l : Ln) (a : Option Addr) (ca : Nat) (ws : List Int) (hlw : Len ws.length) (hx : IntsAt w a ws) (t : Int) :
    Calls Try.prog 11 #[l.val, .slice a ws.length ca, .int .i64 t] w fun e w' => e = .returned (.bool true) ∧ Below w.heap.size w w' := safe_law hA l a ca ws hlw t w hx
end Go.Proofs.Ytggkhddficmnfaa
