/-
  Pass, what it returns, as one function; words and their pulses, there and back.
-/
import Derived.Test.YtggkhddficmnfaaPassAny
namespace Go.Proofs.Ytggkhddficmnfaa
open Go.RowKit Go.Shelf
set_option linter.unusedVariables false
set_option linter.unusedSimpArgs false

/-- The first round in which pulses are lost. -/
def firstLost (l : Ln) (ts : List Int) : Option Nat := (List.range ts.length).find? fun k => l.rL (ts[k]?.getD 0)
def passOut (l : Ln) (ws ts : List Int) : List Int × Int :=
  match firstLost l ts with
  | some k => (List.replicate l.W.toNat 0, (k : Int))
  | none => (joined (roundsL l ts (pulsesFrom ws l.B.toNat) (List.range ts.length)) l.B.toNat l.W.toNat, -1)
theorem firstLost_some {l : Ln} {ts : List Int} {k : Nat} (h : firstLost l ts = some k) : k < ts.length ∧ l.rL (ts[k]?.getD 0) = true ∧ ∀ j, j < k → l.rL (ts[j]?.getD 0) = false := by
  unfold firstLost at h
  have h1 := List.find?_some h
  have h2 := List.mem_of_find?_eq_some h
  refine ⟨by simpa using h2, h1, fun j hj => ?_⟩
  rw [List.find?_range_eq_some] at h
  have := h.2.2 j hj
  simpa using this
theorem firstLost_none {l : Ln} {ts : List Int} (h : firstLost l ts = none) : ∀ j, j < ts.length → l.rL (ts[j]?.getD 0) = false := by
  unfold firstLost at h
  rw [List.find?_eq_none] at h
  intro j hj
  have := h j (by simpa using hj)
  simpa using this
theorem passErr_zero {l : Ln} {ws ts : List Int} (h : passErr l ws ts = 0) : l.Ok ∧ (ws.length : Int) = l.W ∧ wordsOk l.B ws ∧ ts.length ≤ 60 ∧ tempsOk ts := by
  unfold passErr at h
  split at h
  · rename_i h1
    split at h
    · rename_i h2
      split at h
      · rename_i h3
        unfold tErr at h
        unfold wordsErr wErr at h2
        split at h2
        · rename_i h4
          split at h2
          · rename_i h5
            split at h
            · exact ⟨h1, h4, h5, h3, by assumption⟩
            · omega
          · omega
        · omega
      · omega
    · rename_i h2; exact absurd h h2
  · omega
theorem passErr_cases (l : Ln) (ws ts : List Int) : passErr l ws ts = 0 ∨ passErr l ws ts = 3 ∨ passErr l ws ts = 7 := by
  unfold passErr tErr
  have := wordsErr_cases l ws
  split
  · split
    · split
      · split <;> simp
      · simp
    · omega
  · simp
theorem Pass_out (l : Ln) (a b : Option Addr) (ca cb : Nat) (ws ts : List Int) (h0 : passErr l ws ts = 0) (w : World) (hx : IntsAt w a ws) (hy : IntsAt w b ts) :
    Calls Try.prog 29 #[l.val, .slice a ws.length ca, .slice b ts.length cb] w (RetP w (passOut l ws ts).1 (passOut l ws ts).2) := by
  obtain ⟨h, hwl, hok, hlt, ht⟩ := passErr_zero h0
  obtain ⟨h1, h2, _⟩ := id h
  refine Pass_ok l h l.W.toNat l.B.toNat (by omega) (by omega) a b ca cb ws ts hwl hok hlt ht w hx hy _ _ (fun hk => ?_) (fun k hk hkeep hl => ?_)
  · have e : firstLost l ts = none := by
      cases hf : firstLost l ts with
      | none => rfl
      | some k =>
        have := firstLost_some hf
        have h3 := hk k (by simpa using this.1)
        rw [h3] at this
        simp at this
    unfold passOut; rw [e]; exact ⟨rfl, rfl⟩
  · have e : firstLost l ts = some k := by
      cases hf : firstLost l ts with
      | none => have := firstLost_none hf k hk; rw [hl] at this; cases this
      | some j =>
        have g := firstLost_some hf
        rcases Nat.lt_trichotomy j k with hj | hj | hj
        · have h3 := hkeep j (by simpa using hj)
          rw [h3] at g; simp at g
        · rw [hj]
        · have h3 := g.2.2 k hj
          rw [hl] at h3; cases h3
    unfold passOut; rw [e]; exact ⟨rfl, rfl⟩

/-! ### Words and their pulses -/
theorem val_bits (n : Nat) : ∀ x : Int, 0 ≤ x → x < 2 ^ n → val (bitsOf x n) = x := by
  induction n with
  | zero => intro x h0 h1; simp at h1; have : x = 0 := by omega
            subst this; rfl
  | succ n ih =>
    intro x h0 h1
    rw [Int.pow_succ] at h1
    have hb : bitsOf x (n + 1) = bitOf x 0 :: bitsOf (x / 2) n := by
      unfold bitsOf
      rw [List.range_succ_eq_map, List.map_cons, List.map_map]
      congr 1
      apply List.map_congr_left
      intro k _
      show bitOf x (k + 1) = bitOf (x / 2) k
      unfold bitOf
      rw [Int.pow_succ, Int.mul_comm, Int.ediv_ediv_of_nonneg (by omega)]
    rw [hb, val, ih (x / 2) (by omega) (by omega)]
    unfold bitOf
    simp only [Int.pow_zero, Int.ediv_one]
    by_cases e : x % 2 = 1
    · simp [e]; omega
    · simp [e]; omega
theorem pulses_cons (x : Int) (ws : List Int) (n : Nat) : pulsesFrom (x :: ws) n = bitsOf x n ++ pulsesFrom ws n := by simp [pulsesFrom]
theorem drop_pulses (n : Nat) : ∀ (ws : List Int) (i : Nat), (pulsesFrom ws n).drop (i * n) = pulsesFrom (ws.drop i) n := by
  intro ws i
  induction i generalizing ws with
  | zero => simp
  | succ i ih =>
    cases ws with
    | nil => simp [pulsesFrom]
    | cons x ws =>
      rw [pulses_cons, Nat.succ_mul, Nat.add_comm, ← List.drop_drop, List.drop_left' (bitsOf_len x n), ih, List.drop_succ_cons]
theorem joined_pulses {ws : List Int} {n : Nat} (h : ∀ x ∈ ws, 0 ≤ x ∧ x < 2 ^ n) : joined (pulsesFrom ws n) n ws.length = ws := by
  apply List.ext_getElem
  · simp [joined]
  · intro i h1 h2
    simp only [joined, List.getElem_map, List.getElem_range]
    unfold wordAt
    rw [List.take_length, drop_pulses, List.drop_eq_getElem_cons h2, pulses_cons, List.take_left' (bitsOf_len _ _)]
    exact val_bits n _ (h _ (List.getElem_mem h2)).1 (h _ (List.getElem_mem h2)).2
theorem rot_zero (ps : List Bool) : rot ps 0 = ps := by simp [rot]
theorem pw_nat {b : Int} : pw b = 2 ^ b.toNat := rfl

/-! ### Pass, as a law meets it -/
def passXs (l : Ln) (ws ts : List Int) : List Int := if passErr l ws ts = 0 then (passOut l ws ts).1 else []
def passAt (l : Ln) (ws ts : List Int) : Int := if passErr l ws ts = 0 then (passOut l ws ts).2 else 0
/-- The call returns a slice of numbers, and two numbers. -/
def RetL (w : World) (xs : List Int) (n e' : Int) (e : Ending) (w' : World) : Prop :=
  ∃ a cap, e = .returned (.tuple #[.slice a xs.length cap, .int .i64 n, .int .i64 e']) ∧ IntsAt w' a xs ∧ Below w.heap.size w w'
theorem intsOfRow {W : World} {base g n c : Nat} {xs : List Int} (h : W.ownsRow base 3 1 (.slice (some ⟨g, 0, none⟩) n c) n (xs.map (Value.int .i64))) : IntsAt W (some ⟨g, 0, none⟩) xs := fun j hj => by
  refine ⟨g, 0, rfl, ?_⟩
  have hn := h.1
  rw [List.length_map] at hn
  rw [Nat.zero_add]
  refine (h.cellAt j (by omega)).trans ?_
  simp [hj]
theorem Pass_law (l : Ln) (a b : Option Addr) (ca cb : Nat) (ws ts : List Int) (hle : Len ts.length) (w : World) (hx : IntsAt w a ws) (hy : IntsAt w b ts) :
    Calls Try.prog 29 #[l.val, .slice a ws.length ca, .slice b ts.length cb] w (RetL w (passXs l ws ts) (passAt l ws ts) (passErr l ws ts)) := by
  unfold passXs passAt
  by_cases h0 : passErr l ws ts = 0
  · rw [if_pos h0, if_pos h0]
    refine (Pass_out l a b ca cb ws ts h0 w hx hy).mono ?_
    rintro e w' ⟨g, cap, rfl, hrow, hb⟩
    exact ⟨_, cap, by rw [h0], intsOfRow hrow, hb⟩
  · rw [if_neg h0, if_neg h0]
    refine (Pass_err l a b ca cb ws ts hle h0 w hx hy).mono ?_
    rintro e w' ⟨rfl, hb⟩
    exact ⟨none, 0, rfl, fun j hj => by simp at hj, hb⟩
end Go.Proofs.Ytggkhddficmnfaa
