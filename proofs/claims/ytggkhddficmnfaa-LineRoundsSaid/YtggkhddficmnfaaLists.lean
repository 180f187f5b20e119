/-
  The list of a set of numbers.
-/
import Derived.Test.YtggkhddficmnfaaNums
namespace Go.Proofs.Ytggkhddficmnfaa
open Go.RowKit
set_option linter.unusedVariables false
set_option linter.unusedSimpArgs false

/-- The numbers below m of a set, ascending. -/
def listTo (xs : List Nat) (m : Nat) : List Nat := (List.range m).filter (mem xs)
theorem listTo_succ (xs : List Nat) (m : Nat) : listTo xs (m + 1) = if mem xs m then listTo xs m ++ [m] else listTo xs m := by
  unfold listTo
  rw [List.range_succ, List.filter_append]
  cases h : mem xs m <;> simp [h]
theorem listTo_len (xs : List Nat) (m : Nat) : (listTo xs m).length ≤ m := by
  have := List.length_filter_le (mem xs) (List.range m)
  simpa [listTo] using this
def cellsN (ns : List Nat) : List Value := ns.map fun n : Nat => Value.int .i64 (n : Int)

theorem and_one_u64 (x b : Nat) (hx : x < 2 ^ 64) : bits BinOp.and IntKind.u64 ((x : Int) / 2 ^ b) 1 = if x.testBit b then 1 else 0 := by
  have h1 : x >>> b < 2 ^ 64 := Nat.lt_of_le_of_lt (Nat.shiftRight_le _ _) hx
  have h := (bits_nat .u64 64 (by decide) (fun n h0 h1 => wrapU_in n h0 h1) (x >>> b) 1 h1 (by omega)).1
  rw [show ((x >>> b : Nat) : Int) = (x : Int) / 2 ^ b by rw [Nat.shiftRight_eq_div_pow]; simp, Nat.and_one_is_mod] at h
  refine h.trans ?_
  rw [Nat.shiftRight_eq_div_pow, Nat.testBit_eq_decide_div_mod_eq]
  by_cases e : x / 2 ^ b % 2 = 1
  · simp [e]
  · have : x / 2 ^ b % 2 = 0 := by omega
    simp [this]

set_option maxRecDepth 100000 in
set_option maxHeartbeats 2000000 in
theorem list_any (xs : List Nat) (hlx : xs.length ≤ 200) (base g cap : Nat) (w : World) (hx : NumsAt w base g cap xs) :
    Calls Try.prog 75 #[.slice (some ⟨g, 0, none⟩) xs.length cap] w fun e w' =>
      ∃ v, e = .returned v ∧ w'.ownsRow w.heap.size 3 1 v (listTo xs (64 * xs.length)).length (cellsN (listTo xs (64 * xs.length))) ∧ Below w.heap.size w w' := by
  obtain ⟨iI, hiI, hzI0, hzI1, hzI2⟩ := info_parts infoI
  have HX := hid hx
  clear hx
  go_enter Try.func75, Try.ntmps75
  go_wp2
  have hw0 : w.ownsRow w.heap.size 3 1 (.slice none 0 0) (listTo xs 0).length (cellsN (listTo xs 0)) := ⟨by simp [listTo, cellsN], .inl ⟨rfl, by simp [listTo]⟩⟩
  have e0 : (64 : Int) * (xs.length : Int) = ((64 * xs.length : Nat) : Int) := by simp
  obtain ⟨N, hN⟩ : ∃ N, 64 * xs.length = N := ⟨_, rfl⟩
  rw [e0, hN]
  have HN := hid hN
  have hN9 : N ≤ 12800 := by omega
  clear hN e0
  go_loopw [3, 8] (fun v i wr => ∃ k : Nat, k ≤ N ∧ i = .int .i64 k ∧ wr.ownsRow w.heap.size 3 1 v (listTo xs k).length (cellsN (listTo xs k)) ∧ Below w.heap.size w wr) (fun _ i _ => N - (intOf i).toNat)
  case atStart => exact ⟨0, Nat.zero_le _, rfl, hw0, Below.refl _ _⟩
  case round =>
    obtain ⟨k, hk, rfl, hrow, hbr⟩ := hrel
    have HROW := hid hrow
    clear hrow hw0
    by_cases hlt : k < N
    · obtain ⟨i, hi⟩ : ∃ i, k / 64 = i := ⟨_, rfl⟩
      obtain ⟨b, hb⟩ : ∃ b, k % 64 = b := ⟨_, rfl⟩
      have hil : i < xs.length := by have := HN.out; omega
      have hb1 : b < 64 := by omega
      obtain ⟨x, hxv⟩ : ∃ x, xs[i]?.getD 0 = x := ⟨_, rfl⟩
      have hxw := HX.out.below (W' := wr) (by rw [show w.heap.size = w.heap.size from rfl]; exact hbr)
      have c1 := hxw.cell hil hxv
      have hx64 : x < 2 ^ 64 := hxw.2 x (by rw [← hxv]; simp [hil])
      have e1 : (k : Int).tdiv 64 = (i : Int) := by rw [Int.tdiv_eq_ediv_of_nonneg (by omega), ← hi]; simp
      have e2 : (k : Int).tmod 64 = (b : Int) := by rw [Int.tmod_eq_emod_of_nonneg (by omega), ← hb]; simp
      have f1 : IntKind.i64.wrap (i : Int) = (i : Int) := IntWalk.i64_in _ (by omega)
      have f2 : IntKind.i64.wrap (b : Int) = (b : Int) := IntWalk.i64_in _ (by omega)
      have e5 : (i : Int) < (xs.length : Int) := by omega
      have e6 : (0 : Int) ≤ (i : Int) := by omega
      have e7 : (b : Int) < 64 := by omega
      have e8 : (0 : Int) ≤ (b : Int) := by omega
      have hmem : mem xs k = x.testBit b := by unfold mem; rw [hi, hb, hxv]
      have e3 := and_one_u64 x b hx64
      rw [← hmem] at e3
      have HS := hid (listTo_succ xs k)
      have hll := listTo_len xs k
      clear hi hb hxv hxw hmem
      cases hm : mem xs k with
      | false =>
        rw [hm, if_neg (by simp)] at e3
        have HM := hid hm
        clear hm
        go_wp2
        go_roundw
        case rel =>
          refine ⟨k + 1, by omega, by go_num, ?_, hbr⟩
          rw [HS.out, HM.out]; exact HROW.out
        case measure => simp [intOf]; omega
      | true =>
        rw [hm, if_pos rfl] at e3
        have HM := hid hm
        clear hm
        have hsz := hbr.size
        go_wp2_with (at_builtin; refine wpList_append_own _ rfl _ _ 35 rfl w.heap.size 3 iI (.int .i64 0) 1 8 Try.underlying35 hiI hzI0 hzI1 hzI2 rfl (by decide) _ _ _ rfl (HROW.out.alloc _) ⟨wr.heap.size, 0, none⟩ 1 1 [.int .i64 (k : Int)] rfl rfl (cell_one_new _ _ _) (by intro u hu; simp at hu; subst hu; rfl) (by unfold maxLen; omega) (by omega) (by simp; omega) ?_; intro v' w3 hown3 hg3 hnil)
        go_roundw
        case rel =>
          have hg1 := ownsRow_block HROW.out
          refine ⟨k + 1, by omega, by go_num, ?_, (b_alloc hbr _).grown hg3 (by simp; omega) (fun r e => hg1 r e)⟩
          rw [HS.out, HM.out, if_pos rfl, List.length_append]
          simpa [cellsN] using hown3
        case measure => simp [intOf]; omega
    · obtain rfl : k = N := by omega
      go_wp2
      go_ret
      exact ⟨_, rfl, by rw [HN.out]; exact HROW.out, hbr⟩
end Go.Proofs.Ytggkhddficmnfaa
