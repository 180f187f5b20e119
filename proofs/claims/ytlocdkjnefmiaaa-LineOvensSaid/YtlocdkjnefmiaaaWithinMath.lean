/-
  Temperatures within spans: what they come to is among the numbers of Can.
-/
import Derived.Test.YtlocdkjnefmiaaaGCan
import Derived.Test.YtlocdkjnefmiaaaGBack
import Derived.Test.YtlocdkjnefmiaaaOvenLaw
namespace Go.Proofs.Ytlocdkjnefmiaaa
open Go.RowKit
set_option linter.unusedVariables false
set_option linter.unusedSimpArgs false

/-- The byte of a turn. -/
def byteAt (x : List Int) (i : Nat) : Int := if 0 < x.length then x[i % x.length]?.getD 0 else 0
/-- The temperatures of the first k turns. -/
def temps (ss : List (Int × Int)) (x : List Int) (k : Nat) : List Int := (List.range k).map fun i => amongOf (ss[i]?.getD (0, 0)).1 (ss[i]?.getD (0, 0)).2 (byteAt x i)
theorem temps_len (ss : List (Int × Int)) (x : List Int) (k : Nat) : (temps ss x k).length = k := by simp [temps]
theorem temps_succ (ss : List (Int × Int)) (x : List Int) (k : Nat) : temps ss x (k + 1) = temps ss x k ++ [amongOf (ss[k]?.getD (0, 0)).1 (ss[k]?.getD (0, 0)).2 (byteAt x k)] := by simp [temps, List.range_succ]
theorem temps_get (ss : List (Int × Int)) (x : List Int) (k i : Nat) (hi : i < k) : (temps ss x k)[i]?.getD 0 = amongOf (ss[i]?.getD (0, 0)).1 (ss[i]?.getD (0, 0)).2 (byteAt x i) := by simp [temps, hi]
theorem byteAt_bd {x : List Int} (hx : bytesOk x) (i : Nat) : 0 ≤ byteAt x i ∧ byteAt x i ≤ 255 := by
  unfold byteAt
  split
  · rename_i h
    have hl := Nat.mod_lt i h
    have := hx (x[i % x.length]?.getD 0) (by simp [hl])
    omega
  · omega
theorem within_mem {l : Ln} {lo hi t : Int} (h1 : lo ≤ t) (h2 : t ≤ hi) : within' l lo (spanN (lo, hi)) (l.rS t % (l.W * l.B)) (l.rL t) = true := by
  unfold within' spanN
  rw [List.any_eq_true]
  refine ⟨(t - lo).toNat, List.mem_range.2 (by simp only; omega), ?_⟩
  rw [show lo + ((t - lo).toNat : Int) = t by omega]
  simp
theorem rS_lost {l : Ln} {t : Int} (h : l.rL t = true) : l.rS t = 0 := by
  unfold Ln.rL at h; unfold Ln.rS
  cases hs : l.shift t with
  | none => rfl
  | some s => rw [hs] at h; cases h
theorem reach_sum (l : Ln) (ss : List (Int × Int)) (T : List Int) (nb : Nat) (hnb : l.W * l.B = (nb : Int)) (h1 : 1 ≤ nb) (hT : ∀ j, j < T.length → (ss[j]?.getD (0, 0)).1 ≤ T[j]?.getD 0 ∧ T[j]?.getD 0 ≤ (ss[j]?.getD (0, 0)).2) (hl : ∀ j, j < T.length → l.rL (T[j]?.getD 0) = false) :
    ∀ k, k ≤ T.length → Reach l ss nb k (sumT l T k % (nb : Int)).toNat
  | 0, _ => by simp [Reach, sumT]
  | k + 1, hk => by
    have ih := reach_sum l ss T nb hnb h1 hT hl k (by omega)
    have ht := hT k (by omega)
    have hw := within_mem (l := l) ht.1 ht.2
    rw [hl k (by omega), hnb] at hw
    have a0 := Int.emod_nonneg (l.rS (T[k]?.getD 0)) (show (nb : Int) ≠ 0 by omega)
    have b0 := Int.emod_nonneg (sumT l T k) (show (nb : Int) ≠ 0 by omega)
    refine ⟨(l.rS (T[k]?.getD 0) % (nb : Int)).toNat, (sumT l T k % (nb : Int)).toNat, ?_, ih, ?_⟩
    · rw [show (((l.rS (T[k]?.getD 0) % (nb : Int)).toNat : Nat) : Int) = l.rS (T[k]?.getD 0) % (nb : Int) by omega]
      exact hw
    · rw [sumT_succ l T k (by omega), Int.add_emod]
      have e : sumT l T k % (nb : Int) + l.rS (T[k]?.getD 0) % (nb : Int) = (((sumT l T k % (nb : Int)).toNat + (l.rS (T[k]?.getD 0) % (nb : Int)).toNat : Nat) : Int) := by omega
      rw [e, ← Int.natCast_emod, Int.toNat_natCast]
theorem lost_reach (l : Ln) (ss : List (Int × Int)) (T : List Int) (hT : ∀ j, j < T.length → (ss[j]?.getD (0, 0)).1 ≤ T[j]?.getD 0 ∧ T[j]?.getD 0 ≤ (ss[j]?.getD (0, 0)).2) (hlen : T.length = ss.length) {k : Nat} (hk : k < T.length) (hl : l.rL (T[k]?.getD 0) = true) : lostTo l ss ss.length = true := by
  unfold lostTo
  rw [List.any_eq_true]
  have ht := hT k hk
  have hw := within_mem (l := l) ht.1 ht.2
  rw [hl, rS_lost hl, Int.zero_emod] at hw
  exact ⟨k, List.mem_range.2 (by omega), hw⟩
/-- One pulse at the first beat. -/
theorem one_pulse (m n : Nat) (hm : 1 ≤ m) (hn : 1 ≤ n) : (pulsesFrom ((1 : Int) :: List.replicate (m - 1) 0) n)[0]? = some true := by
  rw [pulses_cons]
  obtain ⟨k, rfl⟩ : ∃ k, n = k + 1 := ⟨n - 1, by omega⟩
  have : bitsOf 1 (k + 1) = bitOf 1 0 :: (List.range k).map (fun j => bitOf 1 (j + 1)) := by
    unfold bitsOf; rw [List.range_succ_eq_map, List.map_cons, List.map_map]; rfl
  rw [this]
  simp [bitOf]
theorem rot_one (ps : List Bool) (p : Nat) (hp : p < ps.length) : (rot ps p)[p]? = ps[0]? := by
  rw [rot_get ps p p (by omega) hp, show p + (ps.length - p) = ps.length by omega, Nat.mod_self]
end Go.Proofs.Ytlocdkjnefmiaaa
