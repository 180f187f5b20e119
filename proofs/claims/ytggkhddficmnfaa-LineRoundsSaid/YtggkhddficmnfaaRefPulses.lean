/-
  Contracts of the reference's Pulses and of ones: the bits of words, as numbers.
-/
import Derived.Test.YtggkhddficmnfaaBackLaw
namespace Go.Proofs.Ytggkhddficmnfaa
open Go.RowKit
set_option linter.unusedVariables false
set_option linter.unusedSimpArgs false

def p01 (b : Bool) : Int := if b then 1 else 0
theorem p01_bit (x : Int) (j : Nat) : p01 (bitOf x j) = x / 2 ^ j % 2 := by
  unfold p01 bitOf
  by_cases h : x / 2 ^ j % 2 = 1
  · simp [h]
  · have : x / 2 ^ j % 2 = 0 := by omega
    simp [this]
abbrev P01 (ws : List Int) (n : Nat) : List Int := (pulsesFrom ws n).map p01
theorem half_pow (x : Int) (j : Nat) : x / 2 ^ j / 2 = x / 2 ^ (j + 1) := by
  rw [Int.pow_succ, Int.ediv_ediv_of_nonneg (Int.le_of_lt (Int.pow_pos (by omega)))]

set_option maxRecDepth 100000 in
set_option maxHeartbeats 2000000 in
theorem refPulses_any (a : Option Addr) (cap : Nat) (ws : List Int) (n : Nat) (hlen : ws.length ≤ 64) (hn1 : n ≤ 40) (hok : ∀ x ∈ ws, 0 ≤ x ∧ x ≤ 1099511627776) (w : World) (hx : IntsAt w a ws) :
    Calls Try.prog 51 #[.slice a ws.length cap, .int .i64 (n : Int)] w fun e w' => ∃ v, e = .returned v ∧ w'.ownsRow w.heap.size 3 1 v (P01 ws n).length ((P01 ws n).map (Value.int .i64)) ∧ Below w.heap.size w w' := by
  obtain ⟨iI, hiI, hzI0, hzI1, hzI2⟩ := info_parts infoI
  have HX0 := hid hx
  have HOK := hid hok
  clear hx hok
  have hw0 : w.ownsRow w.heap.size 3 1 (.slice none 0 0) (0 * n) ((P01 (ws.take 0) n).map (Value.int .i64)) := ⟨by simp [pulsesFrom], .inl ⟨rfl, by simp [pulsesFrom]⟩⟩
  go_enter Try.func51, Try.ntmps51
  go_wp2
  go_loopw [5, 6] (fun v i wr => ∃ k : Nat, k ≤ ws.length ∧ i = .int .i64 k ∧ wr.ownsRow w.heap.size 3 1 v (k * n) ((P01 (ws.take k) n).map (Value.int .i64)) ∧ Below w.heap.size w wr) (fun _ i _ => ws.length - (intOf i).toNat)
  case atStart => exact ⟨0, Nat.zero_le _, rfl, hw0, Below.refl _ _⟩
  case round =>
    obtain ⟨k, hk, rfl, hrow, hbr⟩ := hrel
    have HROW := hid hrow
    clear hrow hw0
    by_cases hlt : k < ws.length
    · obtain ⟨b, off, rfl, hc⟩ := (HX0.out.below hbr) k hlt
      obtain ⟨x, hxk⟩ : ∃ x, ws[k]?.getD 0 = x := ⟨_, rfl⟩
      have hx0 := HOK.out x (by rw [← hxk]; simp [hlt])
      rw [hxk] at hc
      have hxk' : ws[k] = x := by simpa [hlt] using hxk
      have HXK := hid hxk'
      clear hxk hxk'
      go_wp2
      obtain ⟨wo, rfl⟩ : ∃ wo : World, wo = wr := ⟨_, rfl⟩
      clear hc
      go_loopw [5, 7, 8] (fun v r i wr => ∃ j : Nat, j ≤ n ∧ i = .int .i64 j ∧ r = .int .i64 (x / 2 ^ j) ∧ wr.ownsRow w.heap.size 3 1 v (k * n + j) (((pulsesFrom (ws.take k) n ++ bitsOf x j).map p01).map (Value.int .i64)) ∧ Below w.heap.size w wr) (fun _ _ i _ => n - (intOf i).toNat)
      case atStart => exact ⟨0, Nat.zero_le _, rfl, by simp, by simpa [bitsOf] using HROW.out, hbr⟩
      case round =>
        obtain ⟨j, hj, rfl, rfl, hrow1, hbr1⟩ := hrel
        have HROW1 := hid hrow1
        clear hrow1
        by_cases hjlt : j < n
        · have hq0 : 0 ≤ x / 2 ^ j ∧ x / 2 ^ j ≤ 1099511627776 := ⟨Int.ediv_nonneg hx0.1 (Int.le_of_lt (Int.pow_pos (by omega))), Int.le_trans (Int.ediv_le_self _ hx0.1) hx0.2⟩
          have hp := p01_bit x j
          have hh := half_pow x j
          have HP := hid hp
          have HH := hid hh
          clear hp hh
          generalize x / 2 ^ j = r at *
          have hkn : k * n ≤ 64 * 40 := Nat.mul_le_mul (by omega) hn1
          have hsz := hbr1.size
          go_wp2_with (at_builtin; refine wpList_append_own _ rfl _ _ 35 rfl w.heap.size 3 iI (.int .i64 0) 1 8 Try.underlying35 hiI hzI0 hzI1 hzI2 rfl (by decide) _ _ _ rfl (HROW1.out.alloc _) ⟨wr.heap.size, 0, none⟩ 1 1 [.int .i64 (r % 2)] rfl rfl (cell_one_new _ _ _) (by intro u hu; simp at hu; subst hu; rfl) (by unfold maxLen; omega) (by omega) (by simp; omega) ?_; intro v' w3 hown3 hg3 hnil)
          go_roundw
          case rel =>
            have hg1 := ownsRow_block HROW1.out
            refine ⟨j + 1, by omega, by go_num, by rw [HH.out], ?_, (b_alloc hbr1 _).grown hg3 (by simp; omega) (fun r e => by have := hg1 r e; omega)⟩
            rw [bitsOf_succ, ← List.append_assoc, List.map_append, List.map_append, List.map_cons, List.map_nil, HP.out]
            exact hown3
          case measure => simp [intOf]; omega
        · obtain rfl : j = n := by omega
          go_wp2
          go_roundw
          case rel =>
            refine ⟨k + 1, by omega, by go_num, ?_, hbr1⟩
            have := HROW1.out
            rw [Nat.succ_mul, take_snoc hlt]
            show World.ownsRow _ _ _ _ _ _ (((pulsesFrom (ws.take k ++ [ws[k]]) j).map p01).map (Value.int .i64))
            rw [pulsesFrom_snoc, HXK.out]
            exact this
          case measure => simp [intOf]; omega
    · obtain rfl : k = ws.length := by omega
      have hrow1 := HROW.out
      rw [List.take_of_length_le (Nat.le_refl _)] at hrow1
      have hp : (P01 ws n).length = ws.length * n := by rw [List.length_map, pulsesFrom_len]
      go_wp2
      go_ret
      refine ⟨_, rfl, ?_, hbr⟩
      rw [hp]; exact hrow1
end Go.Proofs.Ytggkhddficmnfaa
