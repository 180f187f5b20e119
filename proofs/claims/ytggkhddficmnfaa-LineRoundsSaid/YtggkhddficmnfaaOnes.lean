/-
  Contract of ones; what rounds do to the number of pulses.
-/
import Derived.Test.YtggkhddficmnfaaRefPassMain
namespace Go.Proofs.Ytggkhddficmnfaa
open Go.RowKit
set_option linter.unusedVariables false
set_option linter.unusedSimpArgs false

/-- How many pulses. -/
def cnt (bs : List Bool) : Int := (bs.map p01).sum
theorem cnt_app (a b : List Bool) : cnt (a ++ b) = cnt a + cnt b := by simp [cnt, List.sum_append]
theorem cnt_zeros (n : Nat) : cnt (List.replicate n false) = 0 := by
  induction n with
  | zero => rfl
  | succ n ih => rw [List.replicate_succ, ← List.singleton_append, cnt_app, ih]; rfl
theorem cnt_bd (bs : List Bool) : 0 ≤ cnt bs ∧ cnt bs ≤ bs.length := by
  induction bs with
  | nil => simp [cnt]
  | cons b bs ih =>
    have e : cnt (b :: bs) = p01 b + cnt bs := by simp [cnt]
    rw [e, List.length_cons]
    unfold p01
    split <;> omega
theorem cnt_rot (bs : List Bool) (p : Nat) : cnt (rot bs p) = cnt bs := by
  unfold rot
  rw [cnt_app]
  have := cnt_app (bs.take (bs.length - p)) (bs.drop (bs.length - p))
  rw [List.take_append_drop] at this
  omega
theorem cnt_rounds (l : Ln) (ts : List Int) (ps : List Bool) (pre : List Nat) : cnt (roundsL l ts ps pre) = cnt ps := by
  unfold roundsL
  have : ∀ (pre : List Nat) (q : List Bool), cnt (pre.foldl (fun q x => rot q (l.rS (ts[x]?.getD 0) % (ps.length : Int)).toNat) q) = cnt q := by
    intro pre
    induction pre with
    | nil => intro q; rfl
    | cons x pre ih => intro q; rw [List.foldl_cons, ih, cnt_rot]
  exact this pre ps
theorem bits_val : ∀ (bs : List Bool), bitsOf (val bs) bs.length = bs := by
  intro bs
  induction bs with
  | nil => rfl
  | cons b bs ih =>
    have hb := val_bd bs
    have e : val (b :: bs) = p01 b + 2 * val bs := rfl
    have hp : 0 ≤ p01 b ∧ p01 b ≤ 1 := by unfold p01; split <;> omega
    unfold bitsOf
    rw [List.length_cons, List.range_succ_eq_map, List.map_cons, List.map_map]
    congr 1
    · rw [e]; unfold bitOf
      simp only [Int.pow_zero, Int.ediv_one]
      have : (p01 b + 2 * val bs) % 2 = p01 b := by omega
      rw [this]; unfold p01; cases b <;> rfl
    · refine Eq.trans ?_ ih
      unfold bitsOf
      apply List.map_congr_left
      intro k _
      show bitOf (val (b :: bs)) (k + 1) = bitOf (val bs) k
      unfold bitOf
      rw [Int.pow_succ, Int.mul_comm, ← Int.ediv_ediv_of_nonneg (by omega), e]
      have : (p01 b + 2 * val bs) / 2 = val bs := by omega
      rw [this]
theorem pulses_joined (n : Nat) (hn : 1 ≤ n) : ∀ (m : Nat) (bs : List Bool), bs.length = m * n → pulsesFrom (joined bs n m) n = bs
  | 0, bs, h => by
    have : bs = [] := List.length_eq_zero_iff.1 (by omega)
    subst this; rfl
  | m + 1, bs, h => by
    have e : joined bs n (m + 1) = val (bs.take n) :: joined (bs.drop n) n m := by
      unfold joined
      rw [List.range_succ_eq_map, List.map_cons, List.map_map]
      congr 1
      · unfold wordAt; rw [List.take_length, Nat.zero_mul, List.drop_zero]
      · apply List.map_congr_left
        intro i _
        show wordAt bs n bs.length (i + 1) = wordAt (bs.drop n) n (bs.drop n).length i
        unfold wordAt
        rw [List.take_length, List.take_length, List.drop_drop]
        congr 3
        rw [Nat.succ_mul]; omega
    have hl : (bs.take n).length = n := by simp; rw [Nat.succ_mul] at h; omega
    have hb := bits_val (bs.take n)
    rw [hl] at hb
    rw [e, pulses_cons, hb, pulses_joined n hn m (bs.drop n) (by simp; rw [Nat.succ_mul] at h; omega), List.take_append_drop]
theorem joined_ok (bs : List Bool) (n m : Nat) : ∀ x ∈ joined bs n m, 0 ≤ x ∧ x < 2 ^ n := by
  intro x hx
  unfold joined at hx
  obtain ⟨i, _, rfl⟩ := List.mem_map.1 hx
  unfold wordAt
  have h := val_bd (((bs.take bs.length).drop (i * n)).take n)
  refine ⟨h.1, Int.lt_of_lt_of_le h.2 ?_⟩
  have hl : (((bs.take bs.length).drop (i * n)).take n).length ≤ n := by simp; omega
  have := Nat.pow_le_pow_right (show 0 < 2 by omega) hl
  have c : ∀ k : Nat, ((2 ^ k : Nat) : Int) = (2 : Int) ^ k := fun k => by simp
  rw [← c, ← c]; omega
theorem bits_low {x : Int} {j n : Nat} (h : x / 2 ^ j = 0) (hjn : j ≤ n) : cnt (bitsOf x n) = cnt (bitsOf x j) := by
  have : ∀ d, cnt (bitsOf x (j + d)) = cnt (bitsOf x j) := by
    intro d
    induction d with
    | zero => rfl
    | succ d ih =>
      rw [← Nat.add_assoc, bitsOf_succ, cnt_app, ih]
      have hz : x / 2 ^ (j + d) = 0 := by rw [Int.pow_add, ← Int.ediv_ediv_of_nonneg (Int.le_of_lt (Int.pow_pos (by omega))), h, Int.zero_ediv]
      have : cnt [bitOf x (j + d)] = 0 := by simp [cnt, p01_bit, hz]
      omega
  rw [← this (n - j)]
  congr 2; omega

set_option maxRecDepth 100000 in
set_option maxHeartbeats 2000000 in
theorem ones_any (a : Option Addr) (cap : Nat) (ws : List Int) (n : Nat) (hlen : ws.length ≤ 64) (hn1 : n ≤ 40) (hok : ∀ x ∈ ws, 0 ≤ x ∧ x < 2 ^ n) (w : World) (hx : IntsAt w a ws) :
    Calls Try.prog 48 #[.slice a ws.length cap] w fun e w' => e = .returned (.int .i64 (cnt (pulsesFrom ws n))) ∧ w = w' := by
  have HX0 := hid hx
  have HOK := hid hok
  clear hx hok
  have hp2 : (2 : Int) ^ n ≤ 1099511627776 := (pow_bd hn1).2
  go_enter Try.func48, Try.ntmps48
  go_wp2
  go_loop [3, 4] (fun c i => ∃ k : Nat, k ≤ ws.length ∧ i = .int .i64 k ∧ c = .int .i64 (cnt (pulsesFrom (ws.take k) n))) (fun _ i => ws.length - (intOf i).toNat)
  case atStart => exact ⟨0, Nat.zero_le _, rfl, by simp [pulsesFrom, cnt]⟩
  case round =>
    obtain ⟨k, hk, rfl, rfl⟩ := hrel
    have hcb := cnt_bd (pulsesFrom (ws.take k) n)
    have hcl : (pulsesFrom (ws.take k) n).length ≤ 64 * 40 := by
      rw [pulsesFrom_len]
      have : (ws.take k).length ≤ 64 := by simp; omega
      exact Nat.mul_le_mul this hn1
    by_cases hlt : k < ws.length
    · obtain ⟨b, off, rfl, hc⟩ := HX0.out k hlt
      obtain ⟨x, hxk⟩ : ∃ x, ws[k]?.getD 0 = x := ⟨_, rfl⟩
      have hx0 := HOK.out x (by rw [← hxk]; simp [hlt])
      rw [hxk] at hc
      have hxk' : ws[k] = x := by simpa [hlt] using hxk
      have HXK := hid hxk'
      clear hxk hxk'
      obtain ⟨C, hC⟩ : ∃ C, cnt (pulsesFrom (ws.take k) n) = C := ⟨_, rfl⟩
      rw [hC] at hcb
      have HCC := hid hC
      clear hC
      go_wp2
      go_loop [3, 5] (fun c r => ∃ j : Nat, j ≤ n ∧ r = .int .i64 (x / 2 ^ j) ∧ c = .int .i64 (C + cnt (bitsOf x j))) (fun _ r => (intOf r).toNat)
      case atStart => exact ⟨0, Nat.zero_le _, by simp, by rw [HCC.out]; simp [bitsOf, cnt]⟩
      case round =>
        obtain ⟨j, hj, rfl, rfl⟩ := hrel
        have hq0 : 0 ≤ x / 2 ^ j ∧ x / 2 ^ j ≤ 1099511627776 := ⟨Int.ediv_nonneg hx0.1 (Int.le_of_lt (Int.pow_pos (by omega))), Int.le_trans (Int.ediv_le_self _ hx0.1) (by omega)⟩
        have hbl := cnt_bd (bitsOf x j)
        rw [bitsOf_len] at hbl
        by_cases hpos : 0 < x / 2 ^ j
        · have hjn : j < n := by
            by_cases g : j < n
            · exact g
            · obtain rfl : j = n := by omega
              rw [Int.ediv_eq_zero_of_lt hx0.1 hx0.2] at hpos
              omega
          have hp := p01_bit x j
          have hh := half_pow x j
          have hcn : cnt (bitsOf x (j + 1)) = cnt (bitsOf x j) + p01 (bitOf x j) := by rw [bitsOf_succ, cnt_app]; simp [cnt]
          rw [hp] at hcn
          have HH := hid hh
          have HCN := hid hcn
          clear hp hh hcn
          generalize x / 2 ^ j = r at *
          generalize cnt (bitsOf x j) = c at *
          go_wp2
          go_round
          case rel => exact ⟨j + 1, by omega, by rw [← HH.out], by rw [HCN.out]; go_num⟩
          case measure => simp [intOf]; omega
        · have hz : x / 2 ^ j = 0 := by omega
          have hlow := bits_low hz hj
          have HLOW := hid hlow
          rw [hz]
          rw [hz] at hpos
          clear hz hlow hq0
          generalize cnt (bitsOf x j) = c at *
          go_wp2
          go_round
          case rel =>
            refine ⟨k + 1, by omega, by go_num, ?_⟩
            rw [take_snoc hlt, pulsesFrom_snoc, cnt_app, HXK.out, HCC.out, HLOW.out]
          case measure => simp [intOf]; omega
    · obtain rfl : k = ws.length := by omega
      rw [List.take_of_length_le (Nat.le_refl _)]
      clear hcb hcl
      go_wp2
      go_ret
      exact ⟨rfl, rfl⟩
end Go.Proofs.Ytggkhddficmnfaa
