/-
  Plain mathematics of layer 4: orders, words, places. No program in sight.
-/
import Derived.Test.YtbfhgcnfhjhgcaaRows
import Derived.WalkKit
namespace Go.Proofs.Ytbfhgcnfhjhgcaa
set_option linter.unusedVariables false
set_option linter.unusedSimpArgs false

/-- An order, as plain numbers. -/
structure Od where
  op : Int
  fr : Int
  to : Int
  nx : Int
def Od.Ok (o : Od) : Prop := (0 ≤ o.op ∧ o.op ≤ 7) ∧ (0 ≤ o.fr ∧ o.fr ≤ 127) ∧ (0 ≤ o.to ∧ o.to ≤ 127) ∧ 0 ≤ o.nx ∧ o.nx ≤ 127
instance (o : Od) : Decidable o.Ok := by unfold Od.Ok; infer_instance
abbrev Wd (n : Int) : Prop := 0 ≤ n ∧ n ≤ 16777215
abbrev Ad (n : Int) : Prop := 0 ≤ n ∧ n ≤ 127
def dec (w : Int) : Od := ⟨w / 2097152, w / 16384 % 128, w / 128 % 128, w % 128⟩
def enc (o : Od) : Int := ((o.op * 128 + o.fr) * 128 + o.to) * 128 + o.nx
def sgn (w : Int) : Int := if 8388608 ≤ w then w - 16777216 else w
theorem dec_ok {w : Int} (h : Wd w) : (dec w).Ok := by unfold Od.Ok dec; simp only; omega
theorem enc_wd {o : Od} (h : o.Ok) : Wd (enc o) := by unfold Od.Ok at h; unfold enc Wd; omega
theorem enc_dec {w : Int} : enc (dec w) = w := by unfold enc dec; simp only; omega
theorem dec_enc {o : Od} (h : o.Ok) : dec (enc o) = o := by
  obtain ⟨op, fr, to, nx⟩ := o
  unfold Od.Ok at h
  unfold enc dec
  simp only at *
  simp only [Od.mk.injEq]
  omega
theorem sgn_bd {w : Int} (h : Wd w) : -8388608 ≤ sgn w ∧ sgn w ≤ 8388607 := by unfold sgn; split <;> omega
theorem sgn_mod {w : Int} : (sgn w - w) % 16777216 = 0 := by unfold sgn; split <;> omega

/-- The least minor cycle from one on in which the word at an address comes by. -/
def nb (c a : Int) : Int := c + (a - c % 16 + 16) % 16
/-- The least minor cycle after one in which the word at an address comes by. -/
def aft (c a : Int) : Int := nb (c + 1) a
theorem nb_spec (c a : Int) (h : 0 ≤ a) : c ≤ nb c a ∧ nb c a < c + 16 ∧ nb c a % 16 = a % 16 := by unfold nb; omega
theorem aft_spec (c a : Int) (h : 0 ≤ a) : c < aft c a ∧ aft c a ≤ c + 16 ∧ aft c a % 16 = a % 16 := by unfold aft nb; omega
theorem aft_unique {c a t : Int} (h : 0 ≤ a) (h1 : c < t) (h2 : t ≤ c + 16) (h3 : t % 16 = a % 16) : t = aft c a := by unfold aft nb; omega

/-! ### bits -/
open Go
theorem wrap_small {n : Int} (h0 : -9223372036854775808 ≤ n) (h1 : n ≤ 9223372036854775807) : IntKind.i64.wrap n = n := IntWalk.i64_in _ (by omega)
theorem and_mask (x : Int) (b : Nat) (hb : b ≤ 62) : bits BinOp.and IntKind.i64 x (2 ^ b - 1) = x % 2 ^ b := by
  have hp : (0 : Nat) < 2 ^ b := Nat.pow_pos (by omega)
  have hle : (2 : Nat) ^ b ≤ 2 ^ 62 := Nat.pow_le_pow_right (by omega) hb
  have hpi : ((2 : Int) ^ b) = ((2 ^ b : Nat) : Int) := by simp
  have hd : (2 : Nat) ^ 64 = 2 ^ b * 2 ^ (64 - b) := by rw [← Nat.pow_add]; congr 1; omega
  unfold bits
  have e1 : (BitVec.ofInt 64 x &&& BitVec.ofInt 64 (2 ^ b - 1)).toNat = (x % 2 ^ b).toNat := by
    rw [BitVec.toNat_and, BitVec.toNat_ofInt, BitVec.toNat_ofInt]
    have e2 : ((2 ^ b - 1 : Int) % ((2 ^ 64 : Nat) : Int)).toNat = 2 ^ b - 1 := by
      rw [hpi]
      have : (((2 ^ b : Nat) : Int) - 1) % ((2 ^ 64 : Nat) : Int) = ((2 ^ b : Nat) : Int) - 1 := Int.emod_eq_of_lt (by omega) (by omega)
      rw [this]; omega
    rw [e2, Nat.and_two_pow_sub_one_eq_mod]
    have h0 := Int.emod_nonneg x (show ((2 ^ 64 : Nat) : Int) ≠ 0 by omega)
    have : (((x % ((2 ^ 64 : Nat) : Int)).toNat % 2 ^ b : Nat) : Int) = x % ((2 ^ b : Nat) : Int) := by
      rw [Int.natCast_emod, Int.toNat_of_nonneg h0]; exact Int.emod_emod_of_dvd x (Int.natCast_dvd_natCast.2 ⟨2 ^ (64 - b), hd⟩)
    rw [hpi]
    omega
  show IntKind.i64.wrap (((BitVec.ofInt 64 x &&& BitVec.ofInt 64 (2 ^ b - 1)).toNat : Nat) : Int) = _
  rw [e1]
  have h0 := Int.emod_nonneg x (show (2 : Int) ^ b ≠ 0 by rw [hpi]; omega)
  have h1 := Int.emod_lt_of_pos x (show (0 : Int) < 2 ^ b by rw [hpi]; omega)
  rw [Int.toNat_of_nonneg h0]
  exact wrap_small (by omega) (by rw [hpi] at h1; omega)
theorem or_join (h l : Nat) (b : Nat) (hh : h * 2 ^ b < 2 ^ 62) (hl : l < 2 ^ b) (hb : b ≤ 62) : bits BinOp.or IntKind.i64 ((h : Int) * 2 ^ b) (l : Int) = (h : Int) * 2 ^ b + (l : Int) := by
  have hpi : ((2 : Int) ^ b) = ((2 ^ b : Nat) : Int) := by simp
  have hle : (2 : Nat) ^ b ≤ 2 ^ 62 := Nat.pow_le_pow_right (by omega) hb
  unfold bits
  have e1 : (BitVec.ofInt 64 ((h : Int) * 2 ^ b) ||| BitVec.ofInt 64 (l : Int)).toNat = h * 2 ^ b + l := by
    rw [BitVec.toNat_or, BitVec.toNat_ofInt, BitVec.toNat_ofInt, hpi]
    have a1 : ((h : Int) * ((2 ^ b : Nat) : Int) % ((2 ^ 64 : Nat) : Int)).toNat = h * 2 ^ b := by
      rw [← Int.natCast_mul, Int.emod_eq_of_lt (by omega) (by omega)]; omega
    have a2 : ((l : Int) % ((2 ^ 64 : Nat) : Int)).toNat = l := by
      rw [Int.emod_eq_of_lt (by omega) (by omega)]; omega
    rw [a1, a2, ← Nat.shiftLeft_eq, Nat.shiftLeft_add_eq_or_of_lt hl]
  show IntKind.i64.wrap (((BitVec.ofInt 64 ((h : Int) * 2 ^ b) ||| BitVec.ofInt 64 (l : Int)).toNat : Nat) : Int) = _
  rw [e1, Int.natCast_add, Int.natCast_mul, ← hpi]
  refine wrap_small ?_ ?_
  · have : (0 : Int) ≤ (h : Int) * 2 ^ b := Int.mul_nonneg (by omega) (by rw [hpi]; omega)
    omega
  · rw [hpi, ← Int.natCast_mul]; omega
end Go.Proofs.Ytbfhgcnfhjhgcaa
