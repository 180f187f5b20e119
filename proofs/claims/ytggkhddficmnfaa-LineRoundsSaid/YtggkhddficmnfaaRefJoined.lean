/-
  Contract of the reference's Joined: words of pulses.
-/
import Derived.Deep.LoopGhost
import Derived.Test.YtggkhddficmnfaaRefLate
namespace Go.Proofs.Ytggkhddficmnfaa
open Go.RowKit
set_option linter.unusedVariables false
set_option linter.unusedSimpArgs false

/-- The word i, of the pulses from the beat K on. -/
def hiAt (bs : List Bool) (n K i : Nat) : Int := val ((bs.take ((i + 1) * n)).drop (max K (i * n)))
def hiTo (bs : List Bool) (n m K : Nat) : List Int := (List.range m).map (hiAt bs n K)
theorem hiTo_top {bs : List Bool} {n m : Nat} (h : bs.length = m * n) : hiTo bs n m bs.length = List.replicate m 0 := by
  apply List.ext_getElem
  · simp [hiTo]
  · intro i h1 h2
    simp only [hiTo, List.getElem_map, List.getElem_range, List.getElem_replicate]
    unfold hiAt
    rw [List.drop_eq_nil_of_le (by simp; omega)]
    rfl
theorem hiTo_all {bs : List Bool} {n m : Nat} : hiTo bs n m 0 = joined bs n m := by
  apply List.map_congr_left
  intro i _
  unfold hiAt wordAt
  rw [Nat.zero_max, List.take_length]
  congr 1
  rw [List.drop_take]
  congr 1
  rw [Nat.succ_mul]; omega
theorem hiAt_bd {bs : List Bool} {n K i : Nat} : 0 ≤ hiAt bs n K i ∧ hiAt bs n K i < 2 ^ n := by
  have h := val_bd ((bs.take ((i + 1) * n)).drop (max K (i * n)))
  refine ⟨h.1, Int.lt_of_lt_of_le h.2 ?_⟩
  have hl : ((bs.take ((i + 1) * n)).drop (max K (i * n))).length ≤ n := by
    simp only [List.length_drop, List.length_take]
    rw [Nat.succ_mul]; omega
  have := Nat.pow_le_pow_right (show 0 < 2 by omega) hl
  have c : ∀ k : Nat, ((2 ^ k : Nat) : Int) = (2 : Int) ^ k := fun k => by simp
  rw [← c, ← c]; omega
theorem hiAt_step {bs : List Bool} {n j : Nat} (hn : 1 ≤ n) (hj : j < bs.length) : hiAt bs n j (j / n) = p01 (bs[j]) + 2 * hiAt bs n (j + 1) (j / n) := by
  have e := Nat.div_add_mod j n
  have m := Nat.mod_lt j (show 0 < n by omega)
  have e2 : j / n * n = n * (j / n) := Nat.mul_comm _ _
  have e3 : (j / n + 1) * n = j / n * n + n := Nat.succ_mul _ _
  unfold hiAt
  rw [Nat.max_eq_left (show j / n * n ≤ j by omega), Nat.max_eq_left (show j / n * n ≤ j + 1 by omega)]
  have hl : j < (bs.take ((j / n + 1) * n)).length := by simp; omega
  rw [List.drop_eq_getElem_cons hl, val, List.getElem_take]
  rfl
theorem hiAt_other {bs : List Bool} {n j i : Nat} (hn : 1 ≤ n) (hi : i ≠ j / n) : hiAt bs n j i = hiAt bs n (j + 1) i := by
  have e := Nat.div_add_mod j n
  have m := Nat.mod_lt j (show 0 < n by omega)
  have e2 : j / n * n = n * (j / n) := Nat.mul_comm _ _
  have e3 : (i + 1) * n = i * n + n := Nat.succ_mul _ _
  unfold hiAt
  rcases Nat.lt_or_gt_of_ne hi with h | h
  · have h2 : (i + 1) * n ≤ j / n * n := Nat.mul_le_mul_right n h
    rw [List.drop_eq_nil_of_le (by simp; omega), List.drop_eq_nil_of_le (by simp; omega)]
  · have h2 : (j / n + 1) * n ≤ i * n := Nat.mul_le_mul_right n h
    have h3 : (j / n + 1) * n = j / n * n + n := Nat.succ_mul _ _
    rw [Nat.max_eq_right (by omega), Nat.max_eq_right (by omega)]
theorem hiTo_step {bs : List Bool} {n m j i : Nat} {y : Int} (hn : 1 ≤ n) (hj : j < bs.length) (hi : j / n = i) (h : hiAt bs n j i = y) : hiTo bs n m j = (hiTo bs n m (j + 1)).set i y := by
  apply List.ext_getElem
  · simp [hiTo]
  · intro k h1 h2
    rw [List.getElem_set]
    split
    · rename_i e; subst e; simp [hiTo, h]
    · rename_i e
      simp only [hiTo, List.getElem_map, List.getElem_range]
      exact hiAt_other hn (by omega)

set_option maxRecDepth 100000 in
set_option maxHeartbeats 2000000 in
theorem refJoined_any (a : Option Addr) (cap : Nat) (bs : List Bool) (n m : Nat) (hn : 1 ≤ n ∧ n ≤ 40) (hm : m ≤ 64) (hlen : bs.length = m * n) (w : World) (hx : IntsAt w a (bs.map p01)) :
    Calls Try.prog 49 #[.slice a bs.length cap, .int .i64 (n : Int)] w fun e w' => ∃ g, e = .returned (.slice (some ⟨g, 0, none⟩) m m) ∧ w'.ownsRow w.heap.size 3 1 (.slice (some ⟨g, 0, none⟩) m m) m ((joined bs n m).map (Value.int .i64)) ∧ Below w.heap.size w w' := by
  obtain ⟨iI, hiI, hzI0, hzI1, hzI2⟩ := info_parts infoI
  have hmn : m * n ≤ 64 * 40 := Nat.mul_le_mul hm hn.2
  have HX0 := hid hx
  have hq : (bs.length : Int).tdiv (n : Int) = (m : Int) := by
    rw [hlen, Int.tdiv_eq_ediv_of_nonneg (by omega), Int.natCast_mul, Int.mul_ediv_cancel _ (by omega)]
  have hnz : ¬ (n : Int) = 0 := by omega
  have hnz2 : ¬ n = 0 := by omega
  have hq2 : IntKind.i64.wrap (m : Int) = (m : Int) := IntWalk.i64_in _ (by omega)
  have hL : bs.length ≤ 2560 := by omega
  have HL := hid hlen
  clear hx hlen
  go_enter Try.func49, Try.ntmps49
  go_wp2_with (refine wpList_make_full _ rfl _ _ 35 rfl w.heap.size 3 iI (.int .i64 0) 1 Try.underlying35 hiI hzI0 hzI1 .i64 .i64 (m : Int) (m : Int) m rfl rfl rfl rfl (by rw [hzI2]; omega) (by unfold maxLen; omega) (Nat.le_refl _) ?_; intro w2 hown hgrow)
  have hz : (madeCells (Value.int .i64 0).cells (m * 1)).toList = (hiTo bs n m bs.length).map (Value.int .i64) := by
    rw [Nat.mul_one, show (Value.int .i64 0).cells = #[Value.int .i64 0] from rfl, toList_madeCells_one, hiTo_top HL.out, List.map_replicate]
  rw [hz] at hown
  have hBel : Below w.heap.size w w2 := below_of_grown hgrow
  clear hz hgrow hq hq2
  go_loopg [6] bs.length (fun K i wr => K ≤ bs.length ∧ i = .int .i64 ((K : Int) - 1) ∧ wr.ownsRow w.heap.size 3 1 (.slice (some ⟨w.heap.size, 0, none⟩) m m) m ((hiTo bs n m K).map (Value.int .i64)) ∧ Below w.heap.size w wr)
  case atStart => exact ⟨Nat.le_refl _, rfl, hown, hBel⟩
  case round =>
    obtain ⟨hk, rfl, hrow, hbr⟩ := hrel
    clear hown hBel
    have HROW := hid hrow
    clear hrow
    cases gk with
    | zero =>
      have hrow := HROW.out
      rw [hiTo_all] at hrow
      go_wp2
      go_ret
      exact ⟨_, rfl, hrow, hbr⟩
    | succ j =>
      have hjL : j < bs.length := by omega
      have hj : j < bs.length := by omega
      rw [show ((j + 1 : Nat) : Int) - 1 = (j : Int) by omega]
      obtain ⟨b, off, rfl, hc⟩ := (HX0.out.below hbr) j (by simpa using hj)
      obtain ⟨i, hi⟩ : ∃ i, j / n = i := ⟨_, rfl⟩
      have him : i < m := by rw [← hi]; exact Nat.div_lt_of_lt_mul (by have := HL.out; rw [Nat.mul_comm]; omega)
      have e1 : (j : Int).tdiv (n : Int) = (i : Int) := by rw [Int.tdiv_eq_ediv_of_nonneg (by omega), ← hi]; simp
      have hpb : p01 bs[j] = 0 ∨ p01 bs[j] = 1 := by unfold p01; split <;> simp
      have hst := hiAt_step hn.1 hj
      rw [hi] at hst
      have hyb := @hiAt_bd bs n (j + 1) i
      have hp2 : (2 : Int) ^ n ≤ 1099511627776 := (pow_bd hn.2).2
      have hcell := (HROW.out.cellAt i (by simp [hiTo]; omega)).trans (show _ = some (Value.int .i64 (hiAt bs n (j + 1) i)) by simp [hiTo, him])
      have hfr := HROW.out.frozenAt i
      have hc2 : wr.cell? ⟨b, off + j, none⟩ = some (.int .i64 (p01 bs[j])) := hc.trans (by simp [hj])
      have hsu := hiTo_step (m := m) hn.1 hj hi hst
      have HSU := hid hsu
      generalize hiAt bs n (j + 1) i = y at *
      generalize p01 bs[j] = x at *
      have hxb : 0 ≤ x ∧ x ≤ 1 := by omega
      have hyb2 : y ≤ 1099511627776 := by omega
      have hyb0 := hyb.1
      have hcom : 2 * y + x = x + 2 * y := by omega
      rw [← hcom] at HSU
      clear hc hst hsu hi hpb hp2 hyb hcom
      have f1 : IntKind.i64.wrap (i : Int) = (i : Int) := IntWalk.i64_in _ (by omega)
      have f2 : IntKind.i64.wrap (2 * y) = 2 * y := IntWalk.i64_in _ (by omega)
      have f3 : IntKind.i64.wrap (2 * y + x) = 2 * y + x := IntWalk.i64_in _ (by omega)
      have g1 : (i : Int) < (m : Int) := by omega
      have g2 : (0 : Int) ≤ (i : Int) := by omega
      have g3 : (j : Int) < (bs.length : Int) := by omega
      have g4 : (0 : Int) ≤ (j : Int) := by omega
      go_wp2
      go_still_tail 17, (by kernel_rfl)
      change wpList _ _ _ _ _ wr.drew
      go_wp2
      go_roundg j
      case rel =>
        have hst := HROW.out.stored i (.int .i64 (2 * y + x))
        refine ⟨by omega, rfl, ?_, by (repeat (first | assumption | exact Below.refl _ _ | refine b_alloc ?_ _ | refine Below.drew ?_ | refine b_drewN ?_ _ | refine Below.setCell ?_ (by first | omega | (simp; done) | (simp; omega)) _ | refine b_call (by assumption) ?_))⟩
        rw [HSU.out, List.map_set]
        exact hst.1.drew
      case measure => omega
end Go.Proofs.Ytggkhddficmnfaa
