/-
  Pulses after some rounds: where each pulse comes from.
-/
import Derived.Test.YtggkhddficmnfaaPassOut
namespace Go.Proofs.Ytggkhddficmnfaa
set_option linter.unusedVariables false
set_option linter.unusedSimpArgs false

theorem rot_get (ps : List Bool) (p i : Nat) (hp : p ≤ ps.length) (hi : i < ps.length) : (rot ps p)[i]? = ps[(i + (ps.length - p)) % ps.length]? := by
  unfold rot
  by_cases h : i < p
  · rw [List.getElem?_append_left (by simp; omega), List.getElem?_drop, Nat.mod_eq_of_lt (by omega)]
    congr 1; omega
  · rw [List.getElem?_append_right (by simp; omega), List.length_drop, List.getElem?_take_of_lt (by omega)]
    congr 1
    rw [show i + (ps.length - p) = (i - p) + ps.length by omega, Nat.add_mod_right, Nat.mod_eq_of_lt (by omega)]
    omega
/-- The sum of the shifts of some rounds. -/
def sumS (l : Ln) (ts : List Int) (pre : List Nat) : Int := (pre.map fun x => l.rS (ts[x]?.getD 0)).sum
theorem from_mod (L : Nat) (hL : 1 ≤ L) (i : Nat) (hi : i < L) (s : Int) : (i + (L - (s % (L : Int)).toNat)) % L = (((i : Int) - s) % (L : Int)).toNat := by
  have h0 := Int.emod_nonneg s (show (L : Int) ≠ 0 by omega)
  have h1 := Int.emod_lt_of_pos s (show (0 : Int) < L by omega)
  obtain ⟨p, hp⟩ : ∃ p : Nat, s % (L : Int) = (p : Int) := ⟨(s % (L : Int)).toNat, by omega⟩
  have e : ((i : Int) - s) % (L : Int) = ((i + (L - p) : Nat) : Int) % (L : Int) := by
    rw [Int.sub_emod, hp]
    have hpL : p < L := by omega
    have e2 : ((i + (L - p) : Nat) : Int) = (i : Int) - (p : Int) + (L : Int) := by omega
    rw [e2, Int.add_emod_right]
    rw [Int.sub_emod (i : Int) (p : Int), Int.emod_eq_of_lt (show 0 ≤ (p : Int) by omega) (by omega)]
  rw [hp, e, Int.toNat_natCast]
  omega
theorem rounds_get (l : Ln) (ts : List Int) (ps : List Bool) (hL : 1 ≤ ps.length) (pre : List Nat) : ∀ i, i < ps.length → (roundsL l ts ps pre)[i]? = ps[(((i : Int) - sumS l ts pre) % (ps.length : Int)).toNat]? := by
  have : ∀ n, ∀ pre : List Nat, pre.length = n → ∀ i, i < ps.length → (roundsL l ts ps pre)[i]? = ps[(((i : Int) - sumS l ts pre) % (ps.length : Int)).toNat]? := by
    intro n
    induction n with
    | zero =>
      intro pre hp i hi
      have : pre = [] := List.length_eq_zero_iff.1 hp
      subst this
      simp only [roundsL, List.foldl_nil, sumS, List.map_nil, List.sum_nil, Int.sub_zero]
      rw [Int.emod_eq_of_lt (by omega) (by omega), Int.toNat_natCast]
    | succ n ih =>
      intro pre hp i hi
      have hne : pre ≠ [] := by intro e; subst e; simp at hp
      rw [← List.dropLast_concat_getLast hne]
      generalize pre.getLast hne = x
      have hq : pre.dropLast.length = n := by simp; omega
      generalize pre.dropLast = q at *
      have hs : sumS l ts (q ++ [x]) = sumS l ts q + l.rS (ts[x]?.getD 0) := by simp [sumS, List.sum_append]
      have h0 := Int.emod_nonneg (l.rS (ts[x]?.getD 0)) (show (ps.length : Int) ≠ 0 by omega)
      have h1 := Int.emod_lt_of_pos (l.rS (ts[x]?.getD 0)) (show (0 : Int) < ps.length by omega)
      have hlen := roundsL_len l ts ps q
      rw [roundsL_snoc, hs, rot_get _ _ _ (by rw [hlen]; omega) (by rw [hlen]; exact hi), hlen, from_mod _ hL i hi]
      have hm0 := Int.emod_nonneg ((i : Int) - l.rS (ts[x]?.getD 0)) (show (ps.length : Int) ≠ 0 by omega)
      have hm1 := Int.emod_lt_of_pos ((i : Int) - l.rS (ts[x]?.getD 0)) (show (0 : Int) < ps.length by omega)
      rw [ih q hq _ (by omega), Int.toNat_of_nonneg hm0, Int.emod_sub_emod]
      congr 2
      congr 1
      omega
  exact this _ pre rfl
theorem rounds_same (l : Ln) (ts : List Int) (ps : List Bool) (hL : 1 ≤ ps.length) (pre : List Nat) (h : sumS l ts pre % (ps.length : Int) = 0) : roundsL l ts ps pre = ps := by
  apply List.ext_getElem?
  intro i
  by_cases hi : i < ps.length
  · rw [rounds_get l ts ps hL pre i hi]
    congr 1
    rw [Int.sub_emod, h, Int.sub_zero, Int.emod_emod_of_dvd _ (Int.dvd_refl _), Int.emod_eq_of_lt (by omega) (by omega), Int.toNat_natCast]
  · rw [List.getElem?_eq_none (by rw [roundsL_len]; omega), List.getElem?_eq_none (by omega)]
theorem sumS_same (l : Ln) (t : Int) (n : Nat) : ∀ k, k ≤ n → sumS l (List.replicate n t) (List.range k) = (k : Int) * l.rS t
  | 0, _ => by simp [sumS]
  | k + 1, hk => by
    have ih := sumS_same l t n k (by omega)
    unfold sumS at *
    rw [List.range_succ, List.map_append, List.sum_append, ih]
    have e : (List.replicate n t)[k]?.getD 0 = t := by rw [List.getElem?_replicate, if_pos (by omega)]; rfl
    simp only [List.map_cons, List.map_nil, List.sum_cons, List.sum_nil, e]
    rw [Int.natCast_succ, Int.add_mul]; omega
end Go.Proofs.Ytggkhddficmnfaa
