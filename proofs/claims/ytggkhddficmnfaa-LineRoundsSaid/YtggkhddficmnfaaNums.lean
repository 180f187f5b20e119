/-
  The sets of numbers, 64 to a word.
-/
import Derived.StillTailTactics
import Derived.Test.YtggkhddficmnfaaSets
namespace Go.Proofs.Ytggkhddficmnfaa
open Go.RowKit
set_option linter.unusedVariables false
set_option linter.unusedSimpArgs false

theorem infoU : (Try.prog.info? 131).map (fun i => (i.zero, i.size, i.bytes)) = some (some (.int .u64 0), 1, 8) := by kernel_rfl
/-- The words of a set, as cells. -/
def cellsU (xs : List Nat) : List Value := xs.map fun x : Nat => Value.int .u64 (x : Int)
/-- A set of numbers lies in a row from base on: its words are xs. -/
def NumsAt (W : World) (base g : Nat) (cap : Nat) (xs : List Nat) : Prop :=
  W.ownsRow base 131 1 (.slice (some ⟨g, 0, none⟩) xs.length cap) xs.length (cellsU xs) ∧ ∀ x ∈ xs, x < 2 ^ 64
/-- n is one of the numbers. -/
def mem (xs : List Nat) (n : Nat) : Bool := (xs[n / 64]?.getD 0).testBit (n % 64)

set_option maxRecDepth 100000 in
set_option maxHeartbeats 1000000 in
theorem numbersBelow_any (n : Nat) (hn : n ≤ 6000) (w : World) :
    Calls Try.prog 70 #[.int .i64 n] w fun e w' => ∃ g cap, e = .returned (.slice (some ⟨g, 0, none⟩) (n / 64 + 2) cap) ∧ NumsAt w' w.heap.size g cap (List.replicate (n / 64 + 2) 0) ∧ Below w.heap.size w w' := by
  obtain ⟨iI, hiI, hzI0, hzI1, hzI2⟩ := info_parts infoU
  obtain ⟨m, hm⟩ : ∃ m, n / 64 = m := ⟨_, rfl⟩
  have e1 : (n : Int).tdiv 64 = (m : Int) := by rw [Int.tdiv_eq_ediv_of_nonneg (by omega), ← hm]; simp
  have hm1 : m ≤ 100 := by omega
  rw [hm]
  have HM := hid hm
  clear hm
  go_enter Try.func70, Try.ntmps70
  go_wp2_with (refine wpList_make_full _ rfl _ _ 101 rfl w.heap.size 131 iI (.int .u64 0) 1 Try.underlying101 hiI hzI0 hzI1 .i64 .i64 ((m : Int) + 2) ((m : Int) + 2) (m + 2) rfl rfl (by omega) (by omega) (by rw [hzI2]; omega) (by unfold maxLen; omega) (by simp) ?_; intro w2 hown hgrow)
  have hz : (madeCells (Value.int .u64 0).cells ((m + 2) * 1)).toList = cellsU (List.replicate (m + 2) 0) := by
    rw [Nat.mul_one, show (Value.int .u64 0).cells = #[Value.int .u64 0] from rfl, toList_madeCells_one]; simp [cellsU]
  rw [hz] at hown
  go_ret
  exact ⟨_, m + 2, rfl, ⟨by simpa using hown, by simp⟩, below_of_grown hgrow⟩

theorem mem_zero (m n : Nat) : mem (List.replicate m 0) n = false := by
  unfold mem
  rw [List.getElem?_replicate]
  split <;> simp

theorem NumsAt.cell {W : World} {base g cap : Nat} {xs : List Nat} (h : NumsAt W base g cap xs) {i x : Nat} (hi : i < xs.length) (hx : xs[i]?.getD 0 = x) : W.cell? ⟨g, i, none⟩ = some (.int .u64 (x : Int)) := by
  refine (h.1.cellAt i (by simpa [cellsU] using hi)).trans ?_
  subst hx
  simp [cellsU, hi]
theorem NumsAt.frozen {W : World} {base g cap : Nat} {xs : List Nat} (h : NumsAt W base g cap xs) (i : Nat) : W.frozen? ⟨g, i, none⟩ = false := h.1.frozenAt i
theorem NumsAt.stored {W : World} {base g cap : Nat} {xs : List Nat} (h : NumsAt W base g cap xs) {i y : Nat} (hy : y < 2 ^ 64) : NumsAt (W.setCell ⟨g, i, none⟩ (.int .u64 (y : Int))) base g cap (xs.set i y) := by
  have hst := h.1.stored i (.int .u64 (y : Int))
  refine ⟨?_, fun x hx => ?_⟩
  · have := hst.1
    simpa [cellsU, List.map_set] using this
  · rcases List.mem_or_eq_of_mem_set hx with hx | rfl
    · exact h.2 x hx
    · exact hy
theorem NumsAt.kept {W W' : World} {base g cap : Nat} {xs : List Nat} {row : Option Nat} (h : NumsAt W base g cap xs) (hg : W.grownBy W' row) (hne : some g ≠ row) : NumsAt W' base g cap xs :=
  ⟨h.1.kept hg (.inr (by simpa [Value.ownBlock] using hne)), h.2⟩
theorem NumsAt.below {W W' : World} {base g cap : Nat} {xs : List Nat} (h : NumsAt W base g cap xs) (hb : Below W.heap.size W W') : NumsAt W' base g cap xs := h.kept (⟨hb.os, hb.tape, hb.output, hb.size, fun k hk _ => hb.block k hk⟩ : W.grownBy W' none) (by simp)
theorem NumsAt.lt {W : World} {base g cap : Nat} {xs : List Nat} (h : NumsAt W base g cap xs) : base ≤ g ∧ g < W.heap.size := h.1.lt g rfl

theorem wrapU_in (n : Int) (h0 : 0 ≤ n) (h1 : n < 2 ^ 64) : IntKind.u64.wrap n = n := by
  have : IntKind.u64.wrap n = n % 2 ^ 64 := rfl
  rw [this]; exact Int.emod_eq_of_lt h0 h1
theorem pow_lt64 {b : Nat} (h : b < 64) : (0 : Int) ≤ 2 ^ b ∧ (2 : Int) ^ b < 2 ^ 64 := by
  have h1 : (2 : Nat) ^ b < 2 ^ 64 := Nat.pow_lt_pow_right (by omega) h
  exact ⟨Int.le_of_lt (Int.pow_pos (by omega)), by exact_mod_cast h1⟩
theorem or_u64 (x b : Nat) (hx : x < 2 ^ 64) (hb : b < 64) : bits BinOp.or IntKind.u64 (x : Int) ((2 : Int) ^ b) = ((x ||| 2 ^ b : Nat) : Int) := by
  have h := (bits_nat .u64 64 (by decide) (fun n h0 h1 => wrapU_in n h0 h1) x (2 ^ b) hx (Nat.pow_lt_pow_right (by omega) hb)).2
  rwa [show ((2 ^ b : Nat) : Int) = (2 : Int) ^ b by simp] at h

set_option maxRecDepth 100000 in
set_option maxHeartbeats 1000000 in
theorem add_any (xs : List Nat) (n : Nat) (hn : n < 64 * xs.length) (hn9 : n ≤ 6000) (base g cap : Nat) (w : World) (hx : NumsAt w base g cap xs) :
    Calls Try.prog 72 #[.slice (some ⟨g, 0, none⟩) xs.length cap, .int .i64 n] w fun e w' => e = .returned (.tuple #[]) ∧ NumsAt w' base g cap (xs.set (n / 64) (xs[n / 64]?.getD 0 ||| 2 ^ (n % 64))) ∧ w.grownBy w' (some g) := by
  obtain ⟨i, hi⟩ : ∃ i, n / 64 = i := ⟨_, rfl⟩
  obtain ⟨b, hb⟩ : ∃ b, n % 64 = b := ⟨_, rfl⟩
  have hil : i < xs.length := by omega
  have hb1 : b < 64 := by omega
  obtain ⟨x, hxv⟩ : ∃ x, xs[i]?.getD 0 = x := ⟨_, rfl⟩
  have hx64 : x < 2 ^ 64 := hx.2 x (by rw [← hxv]; simp [hil])
  have c1 := hx.cell hil hxv
  have c2 := hx.frozen i
  have e1 : (n : Int).tdiv 64 = (i : Int) := by rw [Int.tdiv_eq_ediv_of_nonneg (by omega), ← hi]; simp
  have e2 : (n : Int).tmod 64 = (b : Int) := by rw [Int.tmod_eq_emod_of_nonneg (by omega), ← hb]; simp
  have e3 := or_u64 x b hx64 hb1
  have f1 : IntKind.i64.wrap (i : Int) = (i : Int) := IntWalk.i64_in _ (by omega)
  have f2 : IntKind.i64.wrap (b : Int) = (b : Int) := IntWalk.i64_in _ (by omega)
  have f3 : IntKind.u64.wrap ((2 : Int) ^ b) = (2 : Int) ^ b := wrapU_in _ (pow_lt64 hb1).1 (pow_lt64 hb1).2
  have e5 : (i : Int) < (xs.length : Int) := by omega
  have e6 : (0 : Int) ≤ (i : Int) := by omega
  have e7 : (b : Int) < 64 := by omega
  have e8 : (0 : Int) ≤ (b : Int) := by omega
  rw [hi, hb, hxv]
  have HX := hid hx
  clear hi hb hxv hx
  go_enter Try.func72, Try.ntmps72
  go_wp2
  go_still_tail 10, (by kernel_rfl)
  change wpList _ _ _ _ _ w.drew
  go_wp2
  have hy : x ||| 2 ^ b < 2 ^ 64 := Nat.or_lt_two_pow hx64 (Nat.pow_lt_pow_right (by omega) hb1)
  refine ⟨rfl, .tuple #[], by simp [results, Try.f72, go_sem], rfl, NumsAt.stored (W := w.drew) HX.out hy, ?_⟩
  exact ⟨rfl, rfl, rfl, by simp, fun k hk hne => Below.heap_setCell w.drew _ _ k (fun e => hne (by rw [e]))⟩

theorem mem_set {xs : List Nat} {i y : Nat} (hi : i < xs.length) (n : Nat) : mem (xs.set i y) n = if n / 64 = i then y.testBit (n % 64) else mem xs n := by
  unfold mem
  rw [List.getElem?_set]
  by_cases h : i = n / 64
  · rw [if_pos h, if_pos (by omega), if_pos h.symm]; rfl
  · rw [if_neg h, if_neg (fun e => h e.symm)]
theorem mem_or {xs : List Nat} {i z : Nat} (hi : i < xs.length) (n : Nat) : mem (xs.set i (xs[i]?.getD 0 ||| z)) n = (mem xs n || (decide (n / 64 = i) && z.testBit (n % 64))) := by
  rw [mem_set hi]
  by_cases h : n / 64 = i
  · rw [if_pos h, Nat.testBit_or]; simp [mem, h]
  · rw [if_neg h]; simp [h]
theorem mem_add {xs : List Nat} {m : Nat} (hi : m / 64 < xs.length) (n : Nat) : mem (xs.set (m / 64) (xs[m / 64]?.getD 0 ||| 2 ^ (m % 64))) n = (mem xs n || n == m) := by
  rw [mem_or hi, Nat.testBit_two_pow]
  congr 1
  have : (n == m) = decide (n = m) := rfl
  rw [this, ← Bool.decide_and]
  exact decide_eq_decide.2 ⟨fun h => by omega, fun h => by subst h; exact ⟨rfl, rfl⟩⟩
theorem bit_high {x j : Nat} (hx : x < 2 ^ 64) (hj : 64 ≤ j) : x.testBit j = false := Nat.testBit_lt_two_pow (Nat.lt_of_lt_of_le hx (Nat.pow_le_pow_right (by omega) hj))
/-- One word more is moved in. -/
theorem mem_moved {xs : List Nat} {x f b k : Nat} (hb : b < 64) (hx : x < 2 ^ 64) (hl : f + k + 1 < xs.length) (n : Nat) :
    mem ((xs.set (f + k) (xs[f + k]?.getD 0 ||| (x <<< b) % 2 ^ 64)).set (f + k + 1) ((xs.set (f + k) (xs[f + k]?.getD 0 ||| (x <<< b) % 2 ^ 64))[f + k + 1]?.getD 0 ||| x >>> (64 - b))) n =
      (mem xs n || (decide (64 * f + b ≤ n) && decide ((n - (64 * f + b)) / 64 = k) && x.testBit ((n - (64 * f + b)) % 64))) := by
  rw [mem_or (by simpa using hl), mem_or (by omega), Bool.or_assoc]
  congr 1
  rw [Nat.testBit_mod_two_pow, Nat.testBit_shiftLeft, Nat.testBit_shiftRight]
  have hm : n % 64 < 64 := Nat.mod_lt _ (by omega)
  by_cases h1 : n / 64 = f + k
  · have h2 : ¬ n / 64 = f + k + 1 := by omega
    simp only [h1, h2, hm, decide_true, decide_false, Bool.true_and, Bool.false_and, Bool.or_false]
    by_cases h3 : b ≤ n % 64
    · rw [show (n - (64 * f + b)) % 64 = n % 64 - b by omega]
      have h4 : 64 * f + b ≤ n := by omega
      have h5 : (n - (64 * f + b)) / 64 = k := by omega
      simp [h3, h4, h5]
    · by_cases h4 : 64 * f + b ≤ n
      · have h5 : ¬ (n - (64 * f + b)) / 64 = k := by omega
        simp [h3, h5]
      · simp [h3, h4]
  · by_cases h2 : n / 64 = f + k + 1
    · have h4 : 64 * f + b ≤ n := by omega
      simp only [h1, h2, h4, decide_true, decide_false, Bool.true_and, Bool.false_and, Bool.false_or]
      by_cases h5 : (n - (64 * f + b)) / 64 = k
      · rw [show (n - (64 * f + b)) % 64 = 64 - b + n % 64 by omega]; simp [h5]
      · rw [bit_high (j := 64 - b + n % 64) hx (by omega)]; simp [h5]
    · by_cases h4 : 64 * f + b ≤ n
      · have h5 : ¬ (n - (64 * f + b)) / 64 = k := by omega
        simp [h1, h2, h5]
      · simp [h1, h2, h4]
/-- What has been moved when the first k words have been. -/
def movedTo (xs ys : List Nat) (by' k n : Nat) : Bool := mem xs n || (decide (by' ≤ n) && decide ((n - by') / 64 < k) && mem ys (n - by'))
theorem movedTo_zero (xs ys : List Nat) (d n : Nat) : movedTo xs ys d 0 n = mem xs n := by simp [movedTo]
theorem movedTo_all (xs ys : List Nat) (d n : Nat) : movedTo xs ys d ys.length n = (mem xs n || (decide (d ≤ n) && mem ys (n - d))) := by
  unfold movedTo
  congr 1
  by_cases h : (n - d) / 64 < ys.length
  · simp [h]
  · have : mem ys (n - d) = false := by unfold mem; rw [List.getElem?_eq_none (by omega)]; simp
    simp [this]
theorem movedTo_succ {xs ys : List Nat} {f b k x : Nat} (hx : ys[k]?.getD 0 = x) (n : Nat) :
    movedTo xs ys (64 * f + b) (k + 1) n = (movedTo xs ys (64 * f + b) k n || (decide (64 * f + b ≤ n) && decide ((n - (64 * f + b)) / 64 = k) && x.testBit ((n - (64 * f + b)) % 64))) := by
  unfold movedTo
  rw [Bool.or_assoc]
  congr 1
  by_cases h : 64 * f + b ≤ n
  · by_cases h1 : (n - (64 * f + b)) / 64 = k
    · have h2 : ¬ (n - (64 * f + b)) / 64 < k := by omega
      have h3 : (n - (64 * f + b)) / 64 < k + 1 := by omega
      simp only [h, h1, h2, h3, decide_true, decide_false, Bool.true_and, Bool.false_and, Bool.false_or, Bool.and_true]
      unfold mem; rw [h1, hx]; simp
    · have h3 : ((n - (64 * f + b)) / 64 < k + 1) ↔ ((n - (64 * f + b)) / 64 < k) := by omega
      simp [h, h1, h3]
  · simp [h]

set_option maxRecDepth 100000 in
set_option maxHeartbeats 2000000 in
theorem addMoved_any (xs ys : List Nat) (d : Nat) (hd : d ≤ 6000) (hlx : xs.length ≤ 200) (hly : ys.length ≤ 200) (hroom : ∀ k, k < ys.length → ys[k]?.getD 0 ≠ 0 → d / 64 + k + 1 < xs.length) (base base' g cap gy cy : Nat) (hgy : gy ≠ g) (w : World)
    (hx : NumsAt w base g cap xs) (hy : NumsAt w base' gy cy ys) :
    Calls Try.prog 95 #[.slice (some ⟨g, 0, none⟩) xs.length cap, .slice (some ⟨gy, 0, none⟩) ys.length cy, .int .i64 d] w fun e w' =>
      e = .returned (.tuple #[]) ∧ (∃ zs, zs.length = xs.length ∧ NumsAt w' base g cap zs ∧ ∀ n, mem zs n = (mem xs n || (decide (d ≤ n) && mem ys (n - d)))) ∧ w.grownBy w' (some g) := by
  obtain ⟨f, hf⟩ : ∃ f, d / 64 = f := ⟨_, rfl⟩
  obtain ⟨b, hb⟩ : ∃ b, d % 64 = b := ⟨_, rfl⟩
  have hb1 : b < 64 := by omega
  have hfd : d = 64 * f + b := by omega
  have e1 : (d : Int).tdiv 64 = (f : Int) := by rw [Int.tdiv_eq_ediv_of_nonneg (by omega), ← hf]; simp
  have e2 : (d : Int).tmod 64 = (b : Int) := by rw [Int.tmod_eq_emod_of_nonneg (by omega), ← hb]; simp
  rw [hf] at hroom
  have HFD := hid hfd
  have HX0 := hid hx
  have HY0 := hid hy
  have HR := hid hroom
  have hf1 : f ≤ 100 := by omega
  clear hf hb hx hy hfd hroom
  go_enter Try.func95, Try.ntmps95
  go_wp2
  have hy0 : ∀ wr, w.grownBy wr (some g) → NumsAt wr base' gy cy ys := fun wr hg => HY0.out.kept hg (by simpa using hgy)
  have HYW := hid hy0
  clear hy0
  go_loopw [16] (fun i wr => ∃ (k : Nat) (zs : List Nat), k ≤ ys.length ∧ i = .int .i64 k ∧ zs.length = xs.length ∧ NumsAt wr base g cap zs ∧ (∀ n, mem zs n = movedTo xs ys (64 * f + b) k n) ∧ w.grownBy wr (some g)) (fun i _ => ys.length - (intOf i).toNat)
  case atStart => exact ⟨0, xs, Nat.zero_le _, rfl, rfl, HX0.out, fun n => (movedTo_zero _ _ _ _).symm, World.grownBy.refl _ _⟩
  case round =>
    obtain ⟨k, zs, hk, rfl, hzl, hz, hm, hg⟩ := hrel
    have HZ := hid hz
    have HM := hid hm
    clear hz hm
    by_cases hlt : k < ys.length
    · obtain ⟨x, hxv⟩ : ∃ x, ys[k]?.getD 0 = x := ⟨_, rfl⟩
      have hyk := HYW.out wr hg
      have hx64 : x < 2 ^ 64 := hyk.2 x (by rw [← hxv]; simp [hlt])
      have hyc := hyk.cell hlt hxv
      have HSU := hid (fun n => movedTo_succ (xs := xs) (f := f) (b := b) hxv n)
      by_cases hx0 : x = 0
      · subst hx0
        clear hyk hxv
        go_wp2
        go_roundw
        case rel => exact ⟨k + 1, zs, by omega, by go_num, hzl, HZ.out, (fun n => by rw [HSU.out, HM.out]; simp), hg⟩
        case measure => simp [intOf]; omega
      · have hroom := HR.out k hlt (by rw [hxv]; exact hx0)
        have hx1 : ((x : Int) != 0) = true := by simpa using (by omega : ¬ (x : Int) = 0)
        obtain ⟨i, hi⟩ : ∃ i, f + k = i := ⟨_, rfl⟩
        obtain ⟨y, hyv⟩ : ∃ y, zs[i]?.getD 0 = y := ⟨_, rfl⟩
        have hz1 := HZ.out.cell (i := i) (by omega) hyv
        have hz2 := HZ.out.frozen i
        have hy64 : y < 2 ^ 64 := HZ.out.2 y (by rw [← hyv]; simp [show i < zs.length by omega])
        have e5 : (i : Int) < (xs.length : Int) := by omega
        have e5' : (0 : Int) ≤ (i : Int) := by omega
        have e6 : (f : Int) + (k : Int) = (i : Int) := by omega
        have e7 : (b : Int) < 64 := by omega
        have e8 : (0 : Int) ≤ (b : Int) := by omega
        have f1 : IntKind.i64.wrap (i : Int) = (i : Int) := IntWalk.i64_in _ (by omega)
        have f2 : IntKind.i64.wrap (b : Int) = (b : Int) := IntWalk.i64_in _ (by omega)
        have f3 : IntKind.u64.wrap ((x : Int) * (2 : Int) ^ b) = ((x <<< b % 2 ^ 64 : Nat) : Int) := by
          show ((x : Int) * (2 : Int) ^ b) % 2 ^ 64 = _
          rw [Nat.shiftLeft_eq]; simp
        have f4 : bits BinOp.or IntKind.u64 (y : Int) ((x <<< b % 2 ^ 64 : Nat) : Int) = ((y ||| x <<< b % 2 ^ 64 : Nat) : Int) :=
          (bits_nat .u64 64 (by decide) (fun n h0 h1 => wrapU_in n h0 h1) y (x <<< b % 2 ^ 64) hy64 (Nat.mod_lt _ (by omega))).2
        obtain ⟨z, hzv⟩ : ∃ z, x <<< b % 2 ^ 64 = z := ⟨_, rfl⟩
        rw [hzv] at f3 f4
        obtain ⟨u, huv⟩ : ∃ u, y ||| z = u := ⟨_, rfl⟩
        rw [huv] at f4
        obtain ⟨c, hc⟩ : ∃ c, 64 - b = c := ⟨_, rfl⟩
        have e9 : (i : Int) + 1 < (xs.length : Int) := by omega
        have e10 : (0 : Int) ≤ (i : Int) + 1 := by omega
        have e11 : (64 : Int) - (b : Int) = (c : Int) := by omega
        have e12 : (0 : Int) ≤ (c : Int) := by omega
        have f5 : IntKind.i64.wrap (c : Int) = (c : Int) := IntWalk.i64_in _ (by omega)
        have HI := hid hi
        have HYV := hid hyv
        have HZV := hid hzv
        have HUV := hid huv
        have HC := hid hc
        clear hi hyv hzv huv hyk hxv hc
        go_wp2
        go_still_tail 11, (by kernel_rfl)
        change wpList _ _ _ _ _ wr.drew
        go_wp2
        have hu64 : u < 2 ^ 64 := by rw [← HUV.out]; exact Nat.or_lt_two_pow hy64 (by rw [← HZV.out]; exact Nat.mod_lt _ (by omega))
        have hz5 : NumsAt (wr.setCell ⟨g, i, none⟩ (.int .u64 (u : Int))).drew base g cap (zs.set i u) := HZ.out.stored hu64
        have hg5 : w.grownBy (wr.setCell ⟨g, i, none⟩ (.int .u64 (u : Int))).drew (some g) := hg.trans (show wr.grownBy (wr.setCell ⟨g, i, none⟩ (.int .u64 (u : Int))).drew (some g) from ⟨rfl, rfl, rfl, by simp, fun k hk hne => Below.heap_setCell wr _ _ k (fun e => hne (by rw [e]))⟩)
        clear hz1 hz2 f3 f4 hyc
        have f7 : IntKind.i64.wrap ((i : Int) + 1) = (i : Int) + 1 := IntWalk.i64_in _ (by omega)
        generalize (wr.setCell ⟨g, i, none⟩ (.int .u64 (u : Int))).drew = W1 at *
        obtain ⟨y2, hy2v⟩ : ∃ y2, (zs.set i u)[i + 1]?.getD 0 = y2 := ⟨_, rfl⟩
        have hil : i + 1 < zs.length := by have := HI.out; omega
        have hz3 := hz5.cell (i := i + 1) (by simpa using hil) hy2v
        have hz4 := hz5.frozen (i + 1)
        have hy264 : y2 < 2 ^ 64 := by
          have := hz5.2 ((zs.set i u)[i + 1]'(by simpa using hil)) (List.getElem_mem _)
          rw [← hy2v, List.getElem?_eq_getElem (by simpa using hil)]; exact this
        have f6 : bits BinOp.or IntKind.u64 (y2 : Int) ((x >>> c : Nat) : Int) = ((y2 ||| x >>> c : Nat) : Int) :=
          (bits_nat .u64 64 (by decide) (fun n h0 h1 => wrapU_in n h0 h1) y2 (x >>> c) hy264 (Nat.lt_of_le_of_lt (Nat.shiftRight_le _ _) hx64)).2
        obtain ⟨z2, hz2v⟩ : ∃ z2, x >>> c = z2 := ⟨_, rfl⟩
        obtain ⟨u2, hu2v⟩ : ∃ u2, y2 ||| z2 = u2 := ⟨_, rfl⟩
        rw [hz2v, hu2v, ← hz2v, show ((x >>> c : Nat) : Int) = (x : Int) / 2 ^ c by rw [Nat.shiftRight_eq_div_pow]; simp] at f6
        have HY2V := hid hy2v
        have HZ2V := hid hz2v
        have HU2V := hid hu2v
        have HZ5 := hid hz5
        clear hy2v hz2v hu2v hz5
        go_still_tail 13, (by kernel_rfl)
        change wpList _ _ _ _ _ W1.drew
        go_wp2
        go_roundw
        case rel =>
          have hu264 : u2 < 2 ^ 64 := by rw [← HU2V.out]; exact Nat.or_lt_two_pow hy264 (by rw [← HZ2V.out]; exact Nat.lt_of_le_of_lt (Nat.shiftRight_le _ _) hx64)
          refine ⟨k + 1, (zs.set i u).set (i + 1) u2, by omega, by go_num, by simp [hzl], NumsAt.stored (W := W1.drew) HZ5.out hu264, fun n => ?_, ?_⟩
          · have hmm := mem_moved (xs := zs) (x := x) (f := f) (b := b) (k := k) hb1 hx64 (by have := HI.out; omega) n
            rw [HI.out, HYV.out, HZV.out, HUV.out, HY2V.out, HC.out, HZ2V.out, HU2V.out] at hmm
            rw [hmm, HSU.out, HM.out]
          · exact hg5.trans ⟨rfl, rfl, rfl, by simp, fun k hk hne => Below.heap_setCell W1.drew _ _ k (fun e => hne (by rw [e]))⟩
        case measure => simp [intOf]; omega
    · obtain rfl : k = ys.length := by omega
      go_wp2
      refine ⟨rfl, .tuple #[], by simp [results, Try.f95, go_sem], rfl, ⟨zs, hzl, HZ.out, fun n => ?_⟩, hg⟩
      rw [HM.out, ← HFD.out, movedTo_all]
end Go.Proofs.Ytggkhddficmnfaa
