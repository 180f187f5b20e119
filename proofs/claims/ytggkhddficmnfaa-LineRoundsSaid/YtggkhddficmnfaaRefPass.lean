/-
  Contract of the reference's Pass.
-/
import Derived.Deep.RegionWith
import Derived.Deep.RegionHeld3
import Derived.Test.YtggkhddficmnfaaRefJoined
import Derived.Test.YtggkhddficmnfaaLits
namespace Go.Proofs.Ytggkhddficmnfaa
open Go.RowKit
set_option linter.unusedVariables false
set_option linter.unusedSimpArgs false

/-- The pulses after the first k rounds, as the reference follows them. -/
def pulsesTo (l : Ln) (ws ts : List Int) (n k : Nat) : List Bool :=
  if (firstLost l (ts.take k)).isSome then List.replicate (ws.length * n) false else roundsL l ts (pulsesFrom ws n) (List.range k)
/-- The round in which pulses are lost first, of the first k. -/
def lostAt (l : Ln) (ts : List Int) (k : Nat) : Int := match firstLost l (ts.take k) with | some j => (j : Int) | none => -1
theorem firstLost_zero (l : Ln) (ts : List Int) : firstLost l (ts.take 0) = none := by simp [firstLost]
theorem find_same {p q : Nat → Bool} : ∀ (xs : List Nat), (∀ x ∈ xs, p x = q x) → xs.find? p = xs.find? q
  | [], _ => rfl
  | x :: xs, h => by
    rw [List.find?_cons, List.find?_cons, h x (by simp), find_same xs (fun y hy => h y (by simp [hy]))]
theorem firstLost_succ (l : Ln) (ts : List Int) (k : Nat) (hk : k < ts.length) : firstLost l (ts.take (k + 1)) = match firstLost l (ts.take k) with | some j => some j | none => if l.rL (ts[k]?.getD 0) then some k else none := by
  have hcong : ∀ (n : Nat), n ≤ k → (List.range n).find? (fun j => l.rL ((ts.take (k + 1))[j]?.getD 0)) = (List.range n).find? (fun j => l.rL ((ts.take k)[j]?.getD 0)) := by
    intro n hn
    apply find_same
    intro j hj
    have : j < n := by simpa using hj
    rw [List.getElem?_take_of_lt (by omega), List.getElem?_take_of_lt (by omega)]
  unfold firstLost
  rw [List.length_take, List.length_take, Nat.min_eq_left (by omega), Nat.min_eq_left (by omega), List.range_succ, List.find?_append, hcong k (Nat.le_refl _)]
  rw [List.find?_cons, List.find?_nil, List.getElem?_take_of_lt (by omega)]
  cases (List.range k).find? (fun j => l.rL ((ts.take k)[j]?.getD 0)) with
  | some j => rfl
  | none => cases l.rL (ts[k]?.getD 0) <;> rfl
theorem lateL_rot (bs : List Bool) (d : Int) (hL : 1 ≤ bs.length) : lateL (bs.map p01) d = (rot bs (d % (bs.length : Int)).toNat).map p01 := by
  apply List.ext_getElem?
  intro i
  by_cases hi : i < bs.length
  · have h0 := Int.emod_nonneg d (show (bs.length : Int) ≠ 0 by omega)
    have h1 := Int.emod_lt_of_pos d (show (0 : Int) < bs.length by omega)
    have hx := lateIx_lt hL d i
    rw [List.getElem?_map, rot_get _ _ _ (by omega) hi, from_mod _ hL i hi]
    unfold lateL
    rw [List.getElem?_map, List.getElem?_range (by simpa using hi)]
    simp only [Option.map_some, List.length_map]
    have e : lateIx bs.length d i = (((i : Int) - d) % (bs.length : Int)).toNat := rfl
    rw [← e, List.getElem?_map, List.getElem?_eq_getElem hx]
    rfl
  · rw [List.getElem?_eq_none (by simp [lateL]; omega), List.getElem?_eq_none (by simp [rot_len]; omega)]
theorem rot_zeros (n p : Nat) : rot (List.replicate n false) p = List.replicate n false := by
  unfold rot
  simp only [List.length_replicate, List.drop_replicate, List.take_replicate, List.replicate_append_replicate]
  congr 1; omega
theorem pulsesTo_len (l : Ln) (ws ts : List Int) (n k : Nat) : (pulsesTo l ws ts n k).length = ws.length * n := by
  unfold pulsesTo; split
  · simp
  · rw [roundsL_len, pulsesFrom_len]
theorem joined_zeros (n m : Nat) : joined (List.replicate (m * n) false) n m = List.replicate m 0 := by
  have hv : ∀ k, val (List.replicate k false) = 0 := fun k => by induction k with | zero => rfl | succ k ih => rw [List.replicate_succ, val, ih]; rfl
  apply List.ext_getElem
  · simp [joined]
  · intro i h1 h2
    simp only [joined, List.getElem_map, List.getElem_range, List.getElem_replicate]
    unfold wordAt
    rw [List.take_length, List.drop_replicate, List.take_replicate, hv]

set_option maxRecDepth 100000 in
set_option maxHeartbeats 4000000 in
/-- An error ahead of the temperatures. -/
theorem refPass_early (l : Ln) (a b : Option Addr) (ca cb : Nat) (ws ts : List Int) (hle : Len ts.length) (er : Int) (w : World) (hx : IntsAt w a ws)
    (hc : (¬ l.Ok ∧ er = 7) ∨ (l.Ok ∧ wordsErr l ws = er ∧ er ≠ 0) ∨ (l.Ok ∧ wordsErr l ws = 0 ∧ 60 < ts.length ∧ er = 3)) :
    Calls Try.prog 30 #[l.val, .slice a ws.length ca, .slice b ts.length cb] w (Ret w (.tuple #[.slice none 0 0, .int .i64 0, .int .i64 er])) := by
  have HX := hid hx
  have hL0 := hid (lnAt_new' l w)
  clear hx
  rcases hc with ⟨h, rfl⟩ | ⟨h, he, hne⟩ | ⟨h, he, hlt, rfl⟩
  · go_enter Try.func30, Try.ntmps30
    go_wp2_with (first
      | (go_at_call 26; refine (refCheck_no l h _).mono ?_; rintro e w1 ⟨rfl, hb1⟩; have HB1 := hid (show Below w.heap.size w w1 by (repeat (first | assumption | exact Below.refl _ _ | refine b_alloc ?_ _ | refine Below.drew ?_ | refine b_drewN ?_ _ | refine Below.setCell ?_ (by first | omega | (simp; done) | (simp; omega)) _ | refine b_call (by assumption) ?_))); clear hb1))
    go_loopw [9, 10] (fun e i wr => e = .int .i64 7 ∧ i = .int .i64 0 ∧ w1 = wr) (fun _ _ _ => 0)
    case atStart => exact ⟨rfl, rfl, rfl⟩
    case round =>
      obtain ⟨rfl, rfl, rfl⟩ := hrel
      by_cases hz : 0 < ts.length
      · have hz2 : (0 : Int) < (ts.length : Int) := by omega
        go_wp2
        go_ret3
        exact ⟨rfl, HB1.out⟩
      · have hz2 : ¬ (0 : Int) < (ts.length : Int) := by omega
        go_wp2
        go_ret3
        exact ⟨rfl, HB1.out⟩
  · have hW := fun W hx => refWords_any l h a ca ws W hx
    rw [he] at hW
    have HW := hid hW
    clear he hW
    go_enter Try.func30, Try.ntmps30
    go_wp2_with (first
      | (go_at_call 26; refine (refCheck_ok l h _).mono ?_; rintro e w1 ⟨rfl, hb1⟩; have HB1 := hid (show Below w.heap.size w w1 by (repeat (first | assumption | exact Below.refl _ _ | refine b_alloc ?_ _ | refine Below.drew ?_ | refine b_drewN ?_ _ | refine Below.setCell ?_ (by first | omega | (simp; done) | (simp; omega)) _ | refine b_call (by assumption) ?_))); have hL1 := hid (lnAt_call hL0.out hb1); obtain ⟨d0, d1, d2, d3, d4, d5⟩ := hL1.out; clear hb1)
      | (go_at_call 68; refine (HW.out _ (HX.out.below HB1.out)).mono ?_; rintro e w2 ⟨rfl, hb2⟩; have HB2 := hid (show Below w.heap.size w w2 from b_call hb2 (by have hq := HB1.out; (repeat (first | assumption | exact Below.refl _ _ | refine b_alloc ?_ _ | refine Below.drew ?_ | refine b_drewN ?_ _ | refine Below.setCell ?_ (by first | omega | (simp; done) | (simp; omega)) _ | refine b_call (by assumption) ?_)))); clear hb2; clear d0 d1 d2 d3 d4 d5))
    go_loopw [9, 10] (fun e i wr => e = .int .i64 er ∧ i = .int .i64 0 ∧ w2 = wr) (fun _ _ _ => 0)
    case atStart => exact ⟨rfl, rfl, rfl⟩
    case round =>
      obtain ⟨rfl, rfl, rfl⟩ := hrel
      by_cases hz : 0 < ts.length
      · have hz2 : (0 : Int) < (ts.length : Int) := by omega
        go_wp2
        go_ret3
        exact ⟨rfl, HB2.out⟩
      · have hz2 : ¬ (0 : Int) < (ts.length : Int) := by omega
        go_wp2
        go_ret3
        exact ⟨rfl, HB2.out⟩
  · have hW := fun W hx => refWords_any l h a ca ws W hx
    rw [he] at hW
    have HW := hid hW
    clear he hW
    have hlt2 : (60 : Int) < (ts.length : Int) := by omega
    go_enter Try.func30, Try.ntmps30
    go_wp2_with (first
      | (go_at_call 26; refine (refCheck_ok l h _).mono ?_; rintro e w1 ⟨rfl, hb1⟩; have HB1 := hid (show Below w.heap.size w w1 by (repeat (first | assumption | exact Below.refl _ _ | refine b_alloc ?_ _ | refine Below.drew ?_ | refine b_drewN ?_ _ | refine Below.setCell ?_ (by first | omega | (simp; done) | (simp; omega)) _ | refine b_call (by assumption) ?_))); have hL1 := hid (lnAt_call hL0.out hb1); obtain ⟨d0, d1, d2, d3, d4, d5⟩ := hL1.out; clear hb1)
      | (go_at_call 68; refine (HW.out _ (HX.out.below HB1.out)).mono ?_; rintro e w2 ⟨rfl, hb2⟩; have HB2 := hid (show Below w.heap.size w w2 from b_call hb2 (by have hq := HB1.out; (repeat (first | assumption | exact Below.refl _ _ | refine b_alloc ?_ _ | refine Below.drew ?_ | refine b_drewN ?_ _ | refine Below.setCell ?_ (by first | omega | (simp; done) | (simp; omega)) _ | refine b_call (by assumption) ?_)))); clear hb2; clear d0 d1 d2 d3 d4 d5))
    go_loopw [9, 10] (fun e i wr => e = .int .i64 3 ∧ i = .int .i64 0 ∧ w2 = wr) (fun _ _ _ => 0)
    case atStart => exact ⟨rfl, rfl, rfl⟩
    case round =>
      obtain ⟨rfl, rfl, rfl⟩ := hrel
      by_cases hz : 0 < ts.length
      · have hz2 : (0 : Int) < (ts.length : Int) := by omega
        go_wp2
        go_ret3
        exact ⟨rfl, HB2.out⟩
      · have hz2 : ¬ (0 : Int) < (ts.length : Int) := by omega
        go_wp2
        go_ret3
        exact ⟨rfl, HB2.out⟩

set_option maxRecDepth 100000 in
set_option maxHeartbeats 4000000 in
/-- A number that is no temperature. -/
theorem refPass_temp (l : Ln) (h : l.Ok) (a b : Option Addr) (ca cb : Nat) (ws ts : List Int) (hlt : ts.length ≤ 60) (he : wordsErr l ws = 0) (hbad : ¬ tempsOk ts) (w : World) (hx : IntsAt w a ws) (hy : IntsAt w b ts) :
    Calls Try.prog 30 #[l.val, .slice a ws.length ca, .slice b ts.length cb] w (Ret w (.tuple #[.slice none 0 0, .int .i64 0, .int .i64 7])) := by
  have HX := hid hx
  have HY := hid hy
  have HBAD := hid hbad
  have hL0 := hid (lnAt_new' l w)
  have hW := fun W hx => refWords_any l h a ca ws W hx
  rw [he] at hW
  have HW := hid hW
  clear hx hy he hW hbad
  have hlt2 : (ts.length : Int) ≤ 60 := by omega
  go_enter Try.func30, Try.ntmps30
  go_wp2_with (first
    | (go_at_call 26; refine (refCheck_ok l h _).mono ?_; rintro e w1 ⟨rfl, hb1⟩; have HB1 := hid (show Below w.heap.size w w1 by (repeat (first | assumption | exact Below.refl _ _ | refine b_alloc ?_ _ | refine Below.drew ?_ | refine b_drewN ?_ _ | refine Below.setCell ?_ (by first | omega | (simp; done) | (simp; omega)) _ | refine b_call (by assumption) ?_))); have hL1 := hid (lnAt_call hL0.out hb1); obtain ⟨d0, d1, d2, d3, d4, d5⟩ := hL1.out; clear hb1)
    | (go_at_call 68; refine (HW.out _ (HX.out.below HB1.out)).mono ?_; rintro e w2 ⟨rfl, hb2⟩; have HB2 := hid (show Below w.heap.size w w2 from b_call hb2 (by have hq := HB1.out; (repeat (first | assumption | exact Below.refl _ _ | refine b_alloc ?_ _ | refine Below.drew ?_ | refine b_drewN ?_ _ | refine Below.setCell ?_ (by first | omega | (simp; done) | (simp; omega)) _ | refine b_call (by assumption) ?_)))); clear hb2; clear d0 d1 d2 d3 d4 d5))
  go_loopw [9, 10] (fun e i wr => ∃ k : Nat, k ≤ ts.length ∧ i = .int .i64 k ∧ w2 = wr ∧ ((e = .int .i64 0 ∧ ∀ j, j < k → Temp (ts[j]?.getD 0)) ∨ (e = .int .i64 7))) (fun _ i _ => ts.length - (intOf i).toNat)
  case atStart => exact ⟨0, Nat.zero_le _, rfl, rfl, .inl ⟨rfl, fun j hj => by omega⟩⟩
  case round =>
    obtain ⟨k, hk, rfl, rfl, hr⟩ := hrel
    by_cases hlt3 : k < ts.length
    · rcases hr with ⟨rfl, hg⟩ | rfl
      · have HG := hid hg
        clear hg
        obtain ⟨bb, off, rfl, hc⟩ := (HY.out.below HB2.out) k hlt3
        obtain ⟨tk, htk⟩ : ∃ tk, ts[k]?.getD 0 = tk := ⟨_, rfl⟩
        rw [htk] at hc
        have HTK := hid htk
        clear htk
        by_cases ht : Temp tk
        · have HT := hid ht
          have hT := fun W => Temp_any tk W
          rw [decide_eq_true ht] at hT
          have HTT := hid hT
          clear hT ht
          go_wp2_with (go_at_call 47; refine (HTT.out _).mono ?_; rintro e w3 ⟨rfl, rfl⟩)
          go_roundw
          case rel =>
            refine ⟨k + 1, by omega, by go_num, trivial, .inl ⟨rfl, fun j hj => ?_⟩⟩
            by_cases e : j = k
            · rw [e, HTK.out]; exact HT.out
            · exact HG.out j (by omega)
          case measure => simp [intOf]; omega
        · have hT := fun W => Temp_any tk W
          rw [decide_eq_false ht] at hT
          have HTT := hid hT
          clear hT ht
          go_wp2_with (go_at_call 47; refine (HTT.out _).mono ?_; rintro e w3 ⟨rfl, rfl⟩)
          go_roundw
          case rel => exact ⟨k + 1, by omega, by go_num, trivial, .inr rfl⟩
          case measure => simp [intOf]; omega
      · go_wp2
        go_ret3
        exact ⟨rfl, HB2.out⟩
    · obtain rfl : k = ts.length := by omega
      rcases hr with ⟨rfl, hg⟩ | rfl
      · exact absurd (tempsOk_step hg) HBAD.out
      · go_wp2
        go_ret3
        exact ⟨rfl, HB2.out⟩
end Go.Proofs.Ytggkhddficmnfaa
