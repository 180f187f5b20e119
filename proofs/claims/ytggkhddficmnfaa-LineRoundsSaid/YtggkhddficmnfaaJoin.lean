/-
  Contract of wordsOf: pulses are put together to words.
-/
import Derived.StillTailTactics
import Derived.Test.YtggkhddficmnfaaTurn
namespace Go.Proofs.Ytggkhddficmnfaa
open Go.RowKit
set_option linter.unusedVariables false
set_option linter.unusedSimpArgs false

/-- The number whose bits these are, the least one first. -/
def val : List Bool → Int
  | [] => 0
  | b :: bs => (if b then 1 else 0) + 2 * val bs
theorem val_snoc (xs : List Bool) (c : Bool) : val (xs ++ [c]) = val xs + if c then 2 ^ xs.length else 0 := by
  induction xs with
  | nil => simp [val]
  | cons b bs ih =>
    rw [List.cons_append, val, ih, val, List.length_cons]
    cases c
    · simp
    · simp only [if_true]; rw [Int.pow_succ]; omega
theorem val_bd (xs : List Bool) : 0 ≤ val xs ∧ val xs < 2 ^ xs.length := by
  induction xs with
  | nil => simp [val]
  | cons b bs ih =>
    rw [val, List.length_cons, Int.pow_succ]
    cases b <;> simp <;> omega
/-- The word i of the first k beats, at n bits a word. -/
def wordAt (ps : List Bool) (n k i : Nat) : Int := val (((ps.take k).drop (i * n)).take n)
def joined (ps : List Bool) (n m : Nat) : List Int := (List.range m).map fun i => wordAt ps n ps.length i
theorem wordAt_zero (ps : List Bool) (n i : Nat) : wordAt ps n 0 i = 0 := by simp [wordAt, val]
theorem chunk_len {ps : List Bool} {n k i : Nat} (hk : k ≤ ps.length) : (((ps.take k).drop (i * n)).take n).length = min n (k - i * n) := by simp; omega
theorem wordAt_same {ps : List Bool} {n k : Nat} (hn : 1 ≤ n) (hk : k < ps.length) : ((ps.take k).drop (k / n * n)).take n = (ps.take k).drop (k / n * n) := by
  apply List.take_of_length_le
  have := Nat.div_add_mod k n
  have := Nat.mod_lt k (show 0 < n by omega)
  have e : k / n * n = n * (k / n) := Nat.mul_comm _ _
  simp; omega
theorem wordAt_step {ps : List Bool} {n k : Nat} (hn : 1 ≤ n) (hk : k < ps.length) : wordAt ps n (k + 1) (k / n) = wordAt ps n k (k / n) + if ps[k] then 2 ^ (k % n) else 0 := by
  have e := Nat.div_add_mod k n
  have m := Nat.mod_lt k (show 0 < n by omega)
  have e2 : k / n * n = n * (k / n) := Nat.mul_comm _ _
  unfold wordAt
  rw [wordAt_same hn hk, List.take_succ_eq_append_getElem hk, List.drop_append_of_le_length (by simp; omega)]
  have hl : ((ps.take k).drop (k / n * n)).length = k % n := by simp; omega
  rw [List.take_of_length_le (by simp; omega), val_snoc, hl]
theorem wordAt_other {ps : List Bool} {n k i : Nat} (hn : 1 ≤ n) (hk : k < ps.length) (hi : i ≠ k / n) : wordAt ps n (k + 1) i = wordAt ps n k i := by
  have e := Nat.div_add_mod k n
  have m := Nat.mod_lt k (show 0 < n by omega)
  unfold wordAt
  congr 1
  rcases Nat.lt_or_gt_of_ne hi with h | h
  · -- the word is before: its chunk is full already
    have h2 : (i + 1) * n ≤ k / n * n := Nat.mul_le_mul_right n h
    have h3 : (i + 1) * n = i * n + n := Nat.succ_mul i n
    have h4 : k / n * n = n * (k / n) := Nat.mul_comm _ _
    rw [List.take_succ_eq_append_getElem hk, List.drop_append_of_le_length (by simp; omega), List.take_append_of_le_length (by simp; omega)]
  · have h2 : (k / n + 1) * n ≤ i * n := Nat.mul_le_mul_right n h
    have h3 : (k / n + 1) * n = k / n * n + n := Nat.succ_mul _ n
    have h4 : k / n * n = n * (k / n) := Nat.mul_comm _ _
    rw [List.drop_eq_nil_of_le (by simp; omega), List.drop_eq_nil_of_le (by simp; omega)]
theorem wordAt_bd {ps : List Bool} {n k : Nat} (hn : 1 ≤ n) (hk : k < ps.length) : 0 ≤ wordAt ps n k (k / n) ∧ wordAt ps n k (k / n) < 2 ^ (k % n) := by
  have e := Nat.div_add_mod k n
  have m := Nat.mod_lt k (show 0 < n by omega)
  have e2 : k / n * n = n * (k / n) := Nat.mul_comm _ _
  unfold wordAt
  rw [wordAt_same hn hk]
  have hl : ((ps.take k).drop (k / n * n)).length = k % n := by simp; omega
  have := val_bd ((ps.take k).drop (k / n * n))
  rwa [hl] at this
theorem or_pow (x : Int) (b : Nat) (h0 : 0 ≤ x) (h1 : x < 2 ^ b) (hb : b ≤ 40) : bits BinOp.or IntKind.i64 x (2 ^ b) = x + 2 ^ b := by
  obtain ⟨n, rfl⟩ := Int.eq_ofNat_of_zero_le h0
  have hp : (2 : Nat) ^ b ≤ 2 ^ 40 := Nat.pow_le_pow_right (by omega) hb
  have c : ((2 ^ b : Nat) : Int) = (2 : Int) ^ b := by simp
  have hn : n < 2 ^ b := by omega
  have h := (bits_nat .i64 63 (by decide) (fun n h0 h1 => IntWalk.i64_in n (by omega)) n (2 ^ b) (by omega) (by omega)).2
  rw [c] at h
  have h2 := Nat.two_pow_add_eq_or_of_lt hn 1
  rw [Nat.mul_one] at h2
  rw [h, Nat.or_comm, ← h2]
  omega

/-- The call returns a new slice of these numbers. -/
abbrev RetInts (w : World) (xs : List Int) : Ending → World → Prop := RetRow w 3 (xs.map (Value.int .i64))
theorem pow_bd {b : Nat} (h : b ≤ 40) : 1 ≤ (2 : Int) ^ b ∧ (2 : Int) ^ b ≤ 1099511627776 := by
  have h1 : (2 : Nat) ^ b ≤ 2 ^ 40 := Nat.pow_le_pow_right (by omega) h
  have h2 : 1 ≤ (2 : Nat) ^ b := Nat.one_le_two_pow
  have c : ((2 ^ b : Nat) : Int) = (2 : Int) ^ b := by simp
  omega

theorem joined_step {ps : List Bool} {n m k : Nat} (hn : 1 ≤ n) (hk : k < ps.length) (h : wordAt ps n (k + 1) (k / n) = wordAt ps n k (k / n)) :
    ((List.range m).map fun i => Value.int .i64 (wordAt ps n (k + 1) i)) = (List.range m).map fun i => Value.int .i64 (wordAt ps n k i) := by
  apply List.map_congr_left
  intro i _
  by_cases e : i = k / n
  · rw [e, h]
  · rw [wordAt_other hn hk e]
theorem joined_set {ps : List Bool} {n m k i : Nat} {y : Int} (hn : 1 ≤ n) (hk : k < ps.length) (hi : k / n = i) (h : wordAt ps n (k + 1) i = y) :
    ((List.range m).map fun i => Value.int .i64 (wordAt ps n (k + 1) i)) = ((List.range m).map fun i => Value.int .i64 (wordAt ps n k i)).set i (.int .i64 y) := by
  apply List.ext_getElem
  · simp
  · intro j h1 h2
    rw [List.getElem_set]
    split
    · rename_i e; subst e; simp [h]
    · rename_i e; simp; rw [wordAt_other hn hk (by omega)]
theorem Cel.set {W : World} {b o : Nat} {v u : Value} {b' o' : Nat} (h : Cel W b o v) (hne : b ≠ b') : Cel (W.setCell ⟨b', o', none⟩ u) b o v := by
  have e : (W.setCell ⟨b', o', none⟩ u).heap[b]? = W.heap[b]? := Below.heap_setCell W ⟨b', o', none⟩ u b hne
  exact ⟨(World.cell?_of_block (a := ⟨b, o, none⟩) e).trans h.1, (World.frozen?_of_block (a := ⟨b, o, none⟩) e).trans h.2⟩
set_option maxRecDepth 100000 in
set_option maxHeartbeats 1000000 in
theorem wordsOf_any (l : Ln) (h : l.Ok) (m n : Nat) (hm : l.W = (m : Int)) (hn : l.B = (n : Int)) (ps : List Bool) (hlen : ps.length = m * n) (g cap : Nat) (w : World) (hx : RowAt w g (ps.map Value.bool)) :
    Calls Try.prog 67 #[l.val, .slice (some ⟨g, 0, none⟩) ps.length cap] w (RetInts w (joined ps n m)) := by
  obtain ⟨iI, hiI, hzI0, hzI1, hzI2⟩ := info_parts infoI
  obtain ⟨h1, h2, _⟩ := id h
  have hm1 : 1 ≤ m ∧ m ≤ 64 := by omega
  have hn1 : 1 ≤ n ∧ n ≤ 40 := by omega
  have hmn : m * n ≤ 64 * 40 := Nat.mul_le_mul hm1.2 hn1.2
  have hle : ps.length ≤ 2560 := by omega
  have HX := hid hx
  have HL := hid hlen
  clear hx hlen
  obtain ⟨lw, lb, lp, ld, ls, ln⟩ := l
  simp only at hm hn h1 h2
  subst hm hn
  go_enter Try.func67, Try.ntmps67
  go_wp2_with (refine wpList_make_full _ rfl _ _ 35 rfl (w.heap.size + 1) 3 iI (.int .i64 0) 1 Try.underlying35 hiI hzI0 hzI1 .i64 .i64 (m : Int) (m : Int) m rfl rfl rfl rfl (by rw [hzI2]; omega) (by unfold maxLen; omega) (by simp) ?_; intro w2 hown hgrow)
  have hcel := (Cel.new w #[.int .i64 m, .int .i64 n, .int .i64 lp, .int .i64 ld, .int .i64 ls, .int .i64 ln] 25 1 _ rfl).grown hgrow (fun _ e => by cases e)
  have hBel : Below w.heap.size w w2 := b_call (below_of_grown hgrow) (b_alloc (Below.refl _ _) _)
  have hz : (madeCells (Value.int .i64 0).cells (m * 1)).toList = (List.range m).map (fun i => Value.int .i64 (wordAt ps n 0 i)) := by
    rw [Nat.mul_one, show (Value.int .i64 0).cells = #[Value.int .i64 0] from rfl, toList_madeCells_one]
    apply List.ext_getElem
    · simp
    · intro i h1 h2; simp [wordAt_zero]
  rw [hz, World.size_alloc] at hown
  clear hz hgrow
  go_loopw [13] (fun i wr => ∃ k : Nat, k ≤ ps.length ∧ i = .int .i64 k ∧ wr.ownsRow (w.heap.size + 1) 3 1 (.slice (some ⟨w.heap.size + 1, 0, none⟩) m m) m ((List.range m).map fun i => Value.int .i64 (wordAt ps n k i)) ∧
      Cel wr w.heap.size 1 (.int .i64 (n : Int)) ∧ Below w.heap.size w wr) (fun i _ => ps.length - (intOf i).toNat)
  case atStart => exact ⟨0, Nat.zero_le _, rfl, hown, hcel, hBel⟩
  case round =>
    obtain ⟨k, hk, rfl, hrow, hc1, hbr⟩ := hrel
    clear hown hcel hBel
    have HROW := hid hrow
    clear hrow
    by_cases hlt : k < ps.length
    · have hrc := (HX.out.below hbr) k (by simpa using hlt)
      obtain ⟨q1, q2⟩ := id hc1
      obtain ⟨i, hi⟩ : ∃ i, k / n = i := ⟨_, rfl⟩
      obtain ⟨b, hb⟩ : ∃ b, k % n = b := ⟨_, rfl⟩
      have him : i < m := by
        rw [← hi]; exact Nat.div_lt_of_lt_mul (by rw [Nat.mul_comm]; have := HL.out; omega)
      have hbn : b < n := by rw [← hb]; exact Nat.mod_lt _ (by omega)
      have bd := wordAt_bd hn1.1 hlt
      have st := wordAt_step hn1.1 hlt
      rw [hi, hb] at bd st
      have hcell := (HROW.out.cellAt i (by omega)).trans (show _ = some (Value.int .i64 (wordAt ps n k i)) by simp [him])
      have hfr := HROW.out.frozenAt i
      obtain ⟨x, hxw⟩ : ∃ x, wordAt ps n k i = x := ⟨_, rfl⟩
      rw [hxw] at bd st hcell
      have pb := pow_bd (show b ≤ 40 by omega)
      have e1 : (k : Int).tdiv (n : Int) = (i : Int) := by rw [Int.tdiv_eq_ediv_of_nonneg (by omega), ← hi]; simp
      have e2 : (k : Int).tmod (n : Int) = (b : Int) := by rw [Int.tmod_eq_emod_of_nonneg (by omega), ← hb]; simp
      have e3 := or_pow x b bd.1 bd.2 (by omega)
      have e4 : ¬ (n : Int) = 0 := by omega
      have e4' : ¬ n = 0 := by omega
      have f1 : IntKind.i64.wrap (i : Int) = (i : Int) := IntWalk.i64_in _ (by omega)
      have f2 : IntKind.i64.wrap (b : Int) = (b : Int) := IntWalk.i64_in _ (by omega)
      have f3 : IntKind.i64.wrap ((2 : Int) ^ b) = (2 : Int) ^ b := IntWalk.i64_in _ (by omega)
      have e5 : (i : Int) < (m : Int) := by omega
      have e6 : (0 : Int) ≤ (i : Int) := by omega
      have e7 : (b : Int) < 64 := by omega
      have e8 : (0 : Int) ≤ (b : Int) := by omega
      have ST := hid st
      have HI := hid hi
      have HB := hid hb
      have HXW := hid hxw
      clear st hi hb hxw
      cases hpk : ps[k] with
      | false =>
        have hrc2 : wr.cell? ⟨g, k, none⟩ = some (.bool false) := hrc.trans (by simp [hlt, hpk])
        have HPK := hid hpk
        clear hrc hpk
        go_wp2
        go_roundw
        case rel =>
          refine ⟨k + 1, by omega, by go_num, ?_, hc1, hbr⟩
          rw [joined_step hn1.1 hlt]
          · exact HROW.out
          · rw [HI.out, ST.out, HPK.out, HXW.out]; simp
        case measure => simp [intOf]; omega
      | true =>
        have hrc2 : wr.cell? ⟨g, k, none⟩ = some (.bool true) := hrc.trans (by simp [hlt, hpk])
        have HPK := hid hpk
        clear hrc hpk
        go_wp2
        go_still_tail 14, (by kernel_rfl)
        change wpList _ _ _ _ _ wr.drew
        go_wp2
        go_roundw
        case rel =>
          have hst := HROW.out.stored i (.int .i64 (x + 2 ^ b))
          refine ⟨k + 1, by omega, by go_num, ?_, hc1.set (by omega), ?_⟩
          · rw [joined_set hn1.1 hlt HI.out (y := x + 2 ^ b) (by rw [ST.out, HPK.out]; simp)]
            exact hst.1.drew
          · (repeat (first | assumption | exact Below.refl _ _ | refine b_alloc ?_ _ | refine Below.drew ?_ | refine b_drewN ?_ _ | refine Below.setCell ?_ (by first | omega | (simp; done) | (simp; omega)) _ | refine b_call (by assumption) ?_))
        case measure => simp [intOf]; omega
    · obtain rfl : k = ps.length := by omega
      have hrow := HROW.out
      go_wp2
      go_ret
      refine ⟨w.heap.size + 1, m, ?_, ?_, hbr⟩
      · show Ending.returned (.slice (some ⟨w.heap.size + 1, 0, none⟩) m m) = _
        simp [joined]
      · have := ownsRow_low hrow (show w.heap.size ≤ w.heap.size + 1 by omega)
        simpa [joined, Function.comp_def] using this
end Go.Proofs.Ytggkhddficmnfaa
