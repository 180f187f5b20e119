/-
  Small slices that a statement builds: their numbers.
  Pulses after some rounds: where each pulse comes from.
  The law LineBack, walked: given that Awake answers true.
  Contracts of the reference's Pulses and of ones: the bits of words, as numbers.
  Contracts of the reference's Late and Joined: pulses that come later; words of pulses.
  Contract of the reference's Joined: words of pulses.
  Contract of the reference's Pass.
  Contract of the reference's Pass, where there is no error; and LinePasses, walked.
  Contract of ones; what rounds do to the number of pulses.
  What the rounds come to, in any order of the temperatures.
-/
import Derived.Test.YtlocdkjnefmiaaaGSmall
import Derived.Test.YtlocdkjnefmiaaaGCan
import Derived.Test.YtlocdkjnefmiaaaGPass
import Derived.Deep.RegionWith
import Derived.Deep.RegionHeld3
import Derived.StillTailTactics
import Derived.Deep.LoopGhost
namespace Go.Proofs.Ytlocdkjnefmiaaa
open Go.RowKit
set_option linter.unusedVariables false
set_option linter.unusedSimpArgs false

theorem ints1 (W : World) (x : Int) : IntsAt (W.alloc (.cells #[.int .i64 x] 3)) (some ⟨W.heap.size, 0, none⟩) [x] := fun j hj => by
  match j, hj with
  | 0, _ => exact ⟨_, 0, rfl, (Cel.new W #[.int .i64 x] 3 0 _ rfl).1⟩
theorem ints2 (W : World) (x y : Int) : IntsAt (W.alloc (.cells #[.int .i64 x, .int .i64 y] 3)) (some ⟨W.heap.size, 0, none⟩) [x, y] := fun j hj => by
  match j, hj with
  | 0, _ => exact ⟨_, 0, rfl, (Cel.new W #[.int .i64 x, .int .i64 y] 3 0 _ rfl).1⟩
  | 1, _ => exact ⟨_, 0, rfl, (Cel.new W #[.int .i64 x, .int .i64 y] 3 1 _ rfl).1⟩
theorem ints4 (W : World) (x y z u : Int) : IntsAt (W.alloc (.cells #[.int .i64 x, .int .i64 y, .int .i64 z, .int .i64 u] 3)) (some ⟨W.heap.size, 0, none⟩) [x, y, z, u] := fun j hj => by
  match j, hj with
  | 0, _ => exact ⟨_, 0, rfl, (Cel.new W #[.int .i64 x, .int .i64 y, .int .i64 z, .int .i64 u] 3 0 _ rfl).1⟩
  | 1, _ => exact ⟨_, 0, rfl, (Cel.new W #[.int .i64 x, .int .i64 y, .int .i64 z, .int .i64 u] 3 1 _ rfl).1⟩
  | 2, _ => exact ⟨_, 0, rfl, (Cel.new W #[.int .i64 x, .int .i64 y, .int .i64 z, .int .i64 u] 3 2 _ rfl).1⟩
  | 3, _ => exact ⟨_, 0, rfl, (Cel.new W #[.int .i64 x, .int .i64 y, .int .i64 z, .int .i64 u] 3 3 _ rfl).1⟩
theorem spans1 (W : World) (x y : Int) : SpansAt (W.alloc (.cells #[.int .i64 x, .int .i64 y] 31)) (some ⟨W.heap.size, 0, none⟩) [(x, y)] := fun j hj => by
  match j, hj with
  | 0, _ => exact ⟨_, 0, rfl, (Cel.new W #[.int .i64 x, .int .i64 y] 31 0 _ rfl).1, (Cel.new W #[.int .i64 x, .int .i64 y] 31 1 _ rfl).1⟩
theorem ints1' (W : World) (x : Int) (n : Nat) (h : n = W.heap.size) : IntsAt (W.alloc (.cells #[.int .i64 x] 3)) (some ⟨n, 0, none⟩) [x] := by subst h; exact ints1 W x
theorem ints2' (W : World) (x y : Int) (n : Nat) (h : n = W.heap.size) : IntsAt (W.alloc (.cells #[.int .i64 x, .int .i64 y] 3)) (some ⟨n, 0, none⟩) [x, y] := by subst h; exact ints2 W x y
theorem ints4' (W : World) (x y z u : Int) (n : Nat) (h : n = W.heap.size) : IntsAt (W.alloc (.cells #[.int .i64 x, .int .i64 y, .int .i64 z, .int .i64 u] 3)) (some ⟨n, 0, none⟩) [x, y, z, u] := by subst h; exact ints4 W x y z u
theorem spans1' (W : World) (x y : Int) (n : Nat) (h : n = W.heap.size) : SpansAt (W.alloc (.cells #[.int .i64 x, .int .i64 y] 31)) (some ⟨n, 0, none⟩) [(x, y)] := by subst h; exact spans1 W x y
theorem lnAt_set {b g o : Nat} {l : Ln} {W : World} {v : Value} (h : LnAt b l W) (hne : g ≠ b) : LnAt b l (W.setCell ⟨g, o, none⟩ v) := by
  have c : ∀ k, (W.setCell ⟨g, o, none⟩ v).cell? ⟨b, k, none⟩ = W.cell? ⟨b, k, none⟩ := fun k => World.cell?_setCell_far _ _ _ _ hne
  unfold LnAt at *
  simp only [c]
  exact h
theorem lnAt_lt {b : Nat} {l : Ln} {W : World} (h : LnAt b l W) : b < W.heap.size := World.block_lt_of_cell? W _ h.1
/-- A slice of zeros that has just been made, the first number set. -/
theorem one_row {W : World} {base g m : Nat} (hm : 1 ≤ m) (h : W.ownsRow base 3 1 (.slice (some ⟨g, 0, none⟩) m m) m (madeCells (Value.int .i64 0).cells (m * 1)).toList) :
    W.cell? ⟨g, 0, none⟩ = some (.int .i64 0) ∧ W.frozen? ⟨g, 0, none⟩ = false ∧ IntsAt (W.setCell ⟨g, 0, none⟩ (.int .i64 1)) (some ⟨g, 0, none⟩) (1 :: List.replicate (m - 1) 0) := by
  have e : (madeCells (Value.int .i64 0).cells (m * 1)).toList = List.replicate m (.int .i64 0) := by
    rw [Nat.mul_one, show (Value.int .i64 0).cells = #[Value.int .i64 0] from rfl, toList_madeCells_one]
  rw [e] at h
  have c0 := h.cellAt 0 (by omega)
  refine ⟨c0.trans (by simp [List.getElem?_replicate]; omega), h.frozenAt 0, ?_⟩
  have st := (h.stored 0 (.int .i64 1)).1
  have hl : (List.replicate m (Value.int .i64 0)).set 0 (.int .i64 1) = (1 :: List.replicate (m - 1) (0 : Int)).map (Value.int .i64) := by
    obtain ⟨k, rfl⟩ : ∃ k, m = k + 1 := ⟨m - 1, by omega⟩
    simp [List.replicate_succ]
  rw [hl] at st
  exact intsOfRow st
end Go.Proofs.Ytlocdkjnefmiaaa
namespace Go.Proofs.Ytlocdkjnefmiaaa
set_option linter.unusedVariables false
set_option linter.unusedSimpArgs false

theorem rot_get (ps : List Bool) (p i : Nat) (hp : p ≤ ps.length) (hi : i < ps.length) : (rot ps p)[i]? = ps[(i + (ps.length - p)) % ps.length]? := by
  unfold rot
  by_cases h : i < p
  · rw [List.getElem?_append_left (by simp; omega), List.getElem?_drop, Nat.mod_eq_of_lt (by omega)]
    congr 1; omega
  · rw [List.getElem?_append_right (by simp; omega), List.length_drop, List.getElem?_take_of_lt (by omega)]
    congr 1
    rw [show i + (ps.length - p) = (i - p) + ps.length by omega, Nat.add_mod_right, Nat.mod_eq_of_lt (by omega)]
    omega
/-- The sum of the shifts of some rounds. -/
def sumS (l : Ln) (ts : List Int) (pre : List Nat) : Int := (pre.map fun x => l.rS (ts[x]?.getD 0)).sum
theorem from_mod (L : Nat) (hL : 1 ≤ L) (i : Nat) (hi : i < L) (s : Int) : (i + (L - (s % (L : Int)).toNat)) % L = (((i : Int) - s) % (L : Int)).toNat := by
  have h0 := Int.emod_nonneg s (show (L : Int) ≠ 0 by omega)
  have h1 := Int.emod_lt_of_pos s (show (0 : Int) < L by omega)
  obtain ⟨p, hp⟩ : ∃ p : Nat, s % (L : Int) = (p : Int) := ⟨(s % (L : Int)).toNat, by omega⟩
  have e : ((i : Int) - s) % (L : Int) = ((i + (L - p) : Nat) : Int) % (L : Int) := by
    rw [Int.sub_emod, hp]
    have hpL : p < L := by omega
    have e2 : ((i + (L - p) : Nat) : Int) = (i : Int) - (p : Int) + (L : Int) := by omega
    rw [e2, Int.add_emod_right]
    rw [Int.sub_emod (i : Int) (p : Int), Int.emod_eq_of_lt (show 0 ≤ (p : Int) by omega) (by omega)]
  rw [hp, e, Int.toNat_natCast]
  omega
theorem rounds_get (l : Ln) (ts : List Int) (ps : List Bool) (hL : 1 ≤ ps.length) (pre : List Nat) : ∀ i, i < ps.length → (roundsL l ts ps pre)[i]? = ps[(((i : Int) - sumS l ts pre) % (ps.length : Int)).toNat]? := by
  have : ∀ n, ∀ pre : List Nat, pre.length = n → ∀ i, i < ps.length → (roundsL l ts ps pre)[i]? = ps[(((i : Int) - sumS l ts pre) % (ps.length : Int)).toNat]? := by
    intro n
    induction n with
    | zero =>
      intro pre hp i hi
      have : pre = [] := List.length_eq_zero_iff.1 hp
      subst this
      simp only [roundsL, List.foldl_nil, sumS, List.map_nil, List.sum_nil, Int.sub_zero]
      rw [Int.emod_eq_of_lt (by omega) (by omega), Int.toNat_natCast]
    | succ n ih =>
      intro pre hp i hi
      have hne : pre ≠ [] := by intro e; subst e; simp at hp
      rw [← List.dropLast_concat_getLast hne]
      generalize pre.getLast hne = x
      have hq : pre.dropLast.length = n := by simp; omega
      generalize pre.dropLast = q at *
      have hs : sumS l ts (q ++ [x]) = sumS l ts q + l.rS (ts[x]?.getD 0) := by simp [sumS, List.sum_append]
      have h0 := Int.emod_nonneg (l.rS (ts[x]?.getD 0)) (show (ps.length : Int) ≠ 0 by omega)
      have h1 := Int.emod_lt_of_pos (l.rS (ts[x]?.getD 0)) (show (0 : Int) < ps.length by omega)
      have hlen := roundsL_len l ts ps q
      rw [roundsL_snoc, hs, rot_get _ _ _ (by rw [hlen]; omega) (by rw [hlen]; exact hi), hlen, from_mod _ hL i hi]
      have hm0 := Int.emod_nonneg ((i : Int) - l.rS (ts[x]?.getD 0)) (show (ps.length : Int) ≠ 0 by omega)
      have hm1 := Int.emod_lt_of_pos ((i : Int) - l.rS (ts[x]?.getD 0)) (show (0 : Int) < ps.length by omega)
      rw [ih q hq _ (by omega), Int.toNat_of_nonneg hm0, Int.emod_sub_emod]
      congr 2
      congr 1
      omega
  exact this _ pre rfl
theorem rounds_same (l : Ln) (ts : List Int) (ps : List Bool) (hL : 1 ≤ ps.length) (pre : List Nat) (h : sumS l ts pre % (ps.length : Int) = 0) : roundsL l ts ps pre = ps := by
  apply List.ext_getElem?
  intro i
  by_cases hi : i < ps.length
  · rw [rounds_get l ts ps hL pre i hi]
    congr 1
    rw [Int.sub_emod, h, Int.sub_zero, Int.emod_emod_of_dvd _ (Int.dvd_refl _), Int.emod_eq_of_lt (by omega) (by omega), Int.toNat_natCast]
  · rw [List.getElem?_eq_none (by rw [roundsL_len]; omega), List.getElem?_eq_none (by omega)]
theorem sumS_same (l : Ln) (t : Int) (n : Nat) : ∀ k, k ≤ n → sumS l (List.replicate n t) (List.range k) = (k : Int) * l.rS t
  | 0, _ => by simp [sumS]
  | k + 1, hk => by
    have ih := sumS_same l t n k (by omega)
    unfold sumS at *
    rw [List.range_succ, List.map_append, List.sum_append, ih]
    have e : (List.replicate n t)[k]?.getD 0 = t := by rw [List.getElem?_replicate, if_pos (by omega)]; rfl
    simp only [List.map_cons, List.map_nil, List.sum_cons, List.sum_nil, e]
    rw [Int.natCast_succ, Int.add_mul]; omega
end Go.Proofs.Ytlocdkjnefmiaaa
namespace Go.Proofs.Ytlocdkjnefmiaaa
open Go.RowKit
set_option linter.unusedVariables false
set_option linter.unusedSimpArgs false

theorem rowIntsI {W : World} {base : Nat} {v : Value} {xs : List Int} (h : W.ownsRow base 3 1 v xs.length (xs.map (Value.int .i64))) : ∃ b c, v = .slice b xs.length c ∧ IntsAt W b xs := by
  rcases h.2 with ⟨e, e2⟩ | ⟨g, cap, cur, e, r⟩
  · have hx : xs = [] := by simpa using e2
    subst hx
    exact ⟨none, 0, e, fun j hj => by simp at hj⟩
  · subst e
    exact ⟨_, cap, rfl, intsOfRow h⟩

theorem lnAt_grown {b : Nat} {l : Ln} {W W' : World} {row : Option Nat} (h : LnAt b l W) (hg : W.grownBy W' row) (hne : ∀ r, row = some r → b ≠ r) : LnAt b l W' := by
  have e := hg.block b (lnAt_lt h) (fun e => hne b e.symm rfl)
  have c : ∀ k, W'.cell? ⟨b, k, none⟩ = W.cell? ⟨b, k, none⟩ := fun k => World.cell?_of_block (a := ⟨b, k, none⟩) e
  unfold LnAt at *
  simp only [c]
  exact h

set_option maxRecDepth 100000 in
set_option maxHeartbeats 2000000 in
theorem back_short (hA : ∀ W, Calls Try.prog 22 #[] W (Ret W (.bool true))) (l : Ln) (a : Option Addr) (ca n : Nat) (t s er : Int) (lost : Bool) (hc : er ≠ 0 ∨ (er = 0 ∧ 60 < l.W * l.B ∧ l.W * l.B ≤ 2560))
    (hS : ∀ W, Calls Try.prog 23 #[l.val, .int .i64 t] W (Ret W (.tuple #[.int .i64 s, .bool lost, .int .i64 er]))) (w : World) :
    Calls Try.prog 13 #[l.val, .slice a n ca, .int .i64 t] w fun e w' => e = .returned (.bool true) ∧ Below w.heap.size w w' := by
  have HA := hid hA
  have HS := hid hS
  have hL0 := hid (lnAt_new' l w)
  clear hA hS
  rcases hc with h | ⟨rfl, h1, h2⟩
  all_goals
    go_enter Try.func13, Try.ntmps13
    go_wp2_with (first
      | (go_at_call 23; refine (HS.out _).mono ?_; rintro e w1 ⟨rfl, hb1⟩; have HB1 := hid (show Below w.heap.size w w1 by (repeat (first | assumption | exact Below.refl _ _ | refine b_alloc ?_ _ | refine Below.drew ?_ | refine b_drewN ?_ _ | refine Below.setCell ?_ (by first | omega | (simp; done) | (simp; omega)) _ | refine b_call (by assumption) ?_))); have hL1 := hid (lnAt_call hL0.out hb1); obtain ⟨d0, d1, d2, d3, d4, d5⟩ := hL1.out; clear hb1)
      | (go_at_call 22; refine (HA.out _).mono ?_; rintro e w3 ⟨rfl, hb3⟩; have HB3 := hid (show Below w.heap.size w w3 from b_call hb3 (by have hq := HB1.out; (repeat (first | assumption | exact Below.refl _ _ | refine b_alloc ?_ _ | refine Below.drew ?_ | refine b_drewN ?_ _ | refine Below.setCell ?_ (by first | omega | (simp; done) | (simp; omega)) _ | refine b_call (by assumption) ?_)))); clear hb3))
    go_ret
    exact ⟨rfl, HB3.out⟩

set_option maxRecDepth 100000 in
set_option maxHeartbeats 8000000 in
theorem back_core (hA : ∀ W, Calls Try.prog 22 #[] W (Ret W (.bool true))) (m n M : Nat) (lp ld ls ln : Int) (hM : m * n = M) (hM1 : 1 ≤ M) (hM2 : M ≤ 60) (a : Option Addr) (ca : Nat) (ws : List Int) (hlw : Len ws.length) (t s : Int) (lost : Bool)
    (xs : List Int) (at1 pe : Int) (hc : (pe ≠ 0 ∧ xs = []) ∨ (pe = 0 ∧ lost = true ∧ at1 = 0) ∨ (pe = 0 ∧ lost = false ∧ at1 = -1 ∧ xs = ws))
    (hS : ∀ W, Calls Try.prog 23 #[Ln.val ⟨m, n, lp, ld, ls, ln⟩, .int .i64 t] W (Ret W (.tuple #[.int .i64 s, .bool lost, .int .i64 0])))
    (hP : ∀ W b cb, IntsAt W a ws → IntsAt W b (List.replicate M t) → Calls Try.prog 29 #[Ln.val ⟨m, n, lp, ld, ls, ln⟩, .slice a ws.length ca, .slice b M cb] W (RetL W xs at1 pe)) (w : World) (hx : IntsAt w a ws) :
    Calls Try.prog 13 #[Ln.val ⟨m, n, lp, ld, ls, ln⟩, .slice a ws.length ca, .int .i64 t] w fun e w' => e = .returned (.bool true) ∧ Below w.heap.size w w' := by
  obtain ⟨iI, hiI, hzI0, hzI1, hzI2⟩ := info_parts infoI
  have HA := hid hA
  have HS := hid hS
  have HP := hid hP
  have HX := hid hx
  have HCC := hid hc
  have hL0 := hid (lnAt_new' ⟨m, n, lp, ld, ls, ln⟩ w)
  have hmi : (m : Int) * (n : Int) = (M : Int) := by rw [← hM]; simp
  have HMI := hid hmi
  have w1' : IntKind.i64.wrap ((m : Int) * (n : Int)) = (m : Int) * (n : Int) := IntWalk.i64_in _ (by omega)
  have w2' : (m : Int) * (n : Int) ≤ 60 := by omega
  clear hA hS hP hx hc hM hmi
  go_enter Try.func13, Try.ntmps13
  go_wp2_with (first
    | (go_at_call 23; refine (HS.out _).mono ?_; rintro e w1 ⟨rfl, hb1⟩; have HB1 := hid (show Below w.heap.size w w1 by (repeat (first | assumption | exact Below.refl _ _ | refine b_alloc ?_ _ | refine Below.drew ?_ | refine b_drewN ?_ _ | refine Below.setCell ?_ (by first | omega | (simp; done) | (simp; omega)) _ | refine b_call (by assumption) ?_))); have hL1 := hid (lnAt_call hL0.out hb1); obtain ⟨d0, d1, d2, d3, d4, d5⟩ := hL1.out; clear hb1))
  have hw0 : w1.ownsRow (w.heap.size + 1) 3 1 (.slice none 0 0) 0 ((List.replicate 0 t).map (Value.int .i64)) := ⟨by simp, .inl ⟨rfl, by simp⟩⟩
  go_loopw [10, 11] (fun v i wr => ∃ k : Nat, k ≤ M ∧ i = .int .i64 k ∧ wr.ownsRow (w.heap.size + 1) 3 1 v k ((List.replicate k t).map (Value.int .i64)) ∧ LnAt w.heap.size ⟨m, n, lp, ld, ls, ln⟩ wr ∧ Below w.heap.size w wr) (fun _ i _ => M - (intOf i).toNat)
  case atStart => exact ⟨0, Nat.zero_le _, rfl, hw0, hL1.out, HB1.out⟩
  case round =>
    obtain ⟨k, hk, rfl, hrow, hln, hbr⟩ := hrel
    have HROW := hid hrow
    have HL := hid hln
    clear hrow hw0 d0 d1 d2 d3 d4 d5
    obtain ⟨d0, d1, d2, d3, d4, d5⟩ := hln
    by_cases hlt : k < M
    · have hlt2 : (k : Int) < (m : Int) * (n : Int) := by have := HMI.out; omega
      have hsz := hbr.size
      have hlt3 := lnAt_lt HL.out
      go_wp2_with (at_builtin; refine wpList_append_own _ rfl _ _ 35 rfl (w.heap.size + 1) 3 iI (.int .i64 0) 1 8 Try.underlying35 hiI hzI0 hzI1 hzI2 rfl (by decide) _ _ _ rfl (HROW.out.alloc _) ⟨wr.heap.size, 0, none⟩ 1 1 [.int .i64 t] rfl rfl (cell_one_new _ _ _) (by intro u hu; simp at hu; subst hu; rfl) (by unfold maxLen; omega) (by omega) (by simp; omega) ?_; intro v' w3 hown3 hg3 hnil)
      go_roundw
      case rel =>
        have hg1 := ownsRow_block HROW.out
        refine ⟨k + 1, by omega, by go_num, ?_, ?_, (b_alloc hbr _).grown hg3 (by simp; omega) (fun r e => by have := hg1 r e; omega)⟩
        · rw [List.replicate_succ', List.map_append]; exact hown3
        · exact lnAt_grown (lnAt_call HL.out (b_alloc (Below.refl _ _) _)) hg3 (fun r e => by have := hg1 r e; omega)
      case measure => simp [intOf]; omega
    · obtain rfl : k = M := by omega
      have hlt2 : ¬ (k : Int) < (m : Int) * (n : Int) := by have := HMI.out; omega
      obtain ⟨b, c, rfl, hi⟩ := rowIntsI (xs := List.replicate k t) (by rw [List.length_replicate]; exact HROW.out)
      rw [List.length_replicate]
      have HI := hid hi
      have HB := hid hbr
      clear hi hbr HROW
      rcases HCC.out with ⟨h1, rfl⟩ | ⟨rfl, rfl, rfl⟩ | ⟨rfl, rfl, rfl, rfl⟩
      · go_wp2_with (first
          | (go_at_call 29; refine (HP.out _ _ _ (HX.out.below HB.out) HI.out).mono ?_; rintro e w5 ⟨a5, c5, rfl, hi5, hb5⟩; have HB5 := hid (b_call hb5 HB.out); clear hb5)
          | (go_at_call 22; refine (HA.out _).mono ?_; rintro e w7 ⟨rfl, hb7⟩; have HB7 := hid (show Below w.heap.size w w7 from b_call hb7 (by have hq := HB5.out; (repeat (first | assumption | exact Below.refl _ _ | refine b_alloc ?_ _ | refine Below.drew ?_ | refine b_drewN ?_ _ | refine Below.setCell ?_ (by first | omega | (simp; done) | (simp; omega)) _ | refine b_call (by assumption) ?_)))); clear hb7))
        go_ret
        exact ⟨rfl, HB7.out⟩
      · go_wp2_with (first
          | (go_at_call 29; refine (HP.out _ _ _ (HX.out.below HB.out) HI.out).mono ?_; rintro e w5 ⟨a5, c5, rfl, hi5, hb5⟩; have HB5 := hid (b_call hb5 HB.out); clear hb5)
          | (go_at_call 22; refine (HA.out _).mono ?_; rintro e w7 ⟨rfl, hb7⟩; have HB7 := hid (show Below w.heap.size w w7 from b_call hb7 (by have hq := HB5.out; (repeat (first | assumption | exact Below.refl _ _ | refine b_alloc ?_ _ | refine Below.drew ?_ | refine b_drewN ?_ _ | refine Below.setCell ?_ (by first | omega | (simp; done) | (simp; omega)) _ | refine b_call (by assumption) ?_)))); clear hb7))
        go_ret
        exact ⟨rfl, HB7.out⟩
      · have HINT := hid (show ∀ W c cc, IntsAt W c xs → IntsAt W a xs → Calls Try.prog 31 #[.slice c xs.length cc, .slice a xs.length ca] W (Ret W (.bool true)) from fun W c cc g1 g2 => by
          have := Ints_any c a cc ca xs xs hlw hlw W g1 g2
          simpa using this)
        go_wp2_with (first
          | (go_at_call 29; refine (HP.out _ _ _ (HX.out.below HB.out) HI.out).mono ?_; rintro e w5 ⟨a5, c5, rfl, hi5, hb5⟩; have HI5 := hid hi5; have HB5 := hid (b_call hb5 HB.out); clear hb5 hi5)
          | (go_at_call 31; refine (HINT.out _ _ _ HI5.out (HX.out.below HB5.out)).mono ?_; rintro e w6 ⟨rfl, hb6⟩; have HB6 := hid (show Below w.heap.size w w6 from b_call hb6 (by have hq := HB5.out; (repeat (first | assumption | exact Below.refl _ _ | refine b_alloc ?_ _ | refine Below.drew ?_ | refine b_drewN ?_ _ | refine Below.setCell ?_ (by first | omega | (simp; done) | (simp; omega)) _ | refine b_call (by assumption) ?_)))); clear hb6)
          | (go_at_call 22; refine (HA.out _).mono ?_; rintro e w7 ⟨rfl, hb7⟩; have HB7 := hid (show Below w.heap.size w w7 from b_call hb7 (by have hq := HB6.out; (repeat (first | assumption | exact Below.refl _ _ | refine b_alloc ?_ _ | refine Below.drew ?_ | refine b_drewN ?_ _ | refine Below.setCell ?_ (by first | omega | (simp; done) | (simp; omega)) _ | refine b_call (by assumption) ?_)))); clear hb7))
        go_ret
        exact ⟨rfl, HB7.out⟩
end Go.Proofs.Ytlocdkjnefmiaaa
namespace Go.Proofs.Ytlocdkjnefmiaaa
open Go.RowKit
set_option linter.unusedVariables false
set_option linter.unusedSimpArgs false

def p01 (b : Bool) : Int := if b then 1 else 0
theorem p01_bit (x : Int) (j : Nat) : p01 (bitOf x j) = x / 2 ^ j % 2 := by
  unfold p01 bitOf
  by_cases h : x / 2 ^ j % 2 = 1
  · simp [h]
  · have : x / 2 ^ j % 2 = 0 := by omega
    simp [this]
abbrev P01 (ws : List Int) (n : Nat) : List Int := (pulsesFrom ws n).map p01
theorem half_pow (x : Int) (j : Nat) : x / 2 ^ j / 2 = x / 2 ^ (j + 1) := by
  rw [Int.pow_succ, Int.ediv_ediv_of_nonneg (Int.le_of_lt (Int.pow_pos (by omega)))]

set_option maxRecDepth 100000 in
set_option maxHeartbeats 2000000 in
theorem refPulses_any (a : Option Addr) (cap : Nat) (ws : List Int) (n : Nat) (hlen : ws.length ≤ 64) (hn1 : n ≤ 40) (hok : ∀ x ∈ ws, 0 ≤ x ∧ x ≤ 1099511627776) (w : World) (hx : IntsAt w a ws) :
    Calls Try.prog 51 #[.slice a ws.length cap, .int .i64 (n : Int)] w fun e w' => ∃ v, e = .returned v ∧ w'.ownsRow w.heap.size 3 1 v (P01 ws n).length ((P01 ws n).map (Value.int .i64)) ∧ Below w.heap.size w w' := by
  obtain ⟨iI, hiI, hzI0, hzI1, hzI2⟩ := info_parts infoI
  have HX0 := hid hx
  have HOK := hid hok
  clear hx hok
  have hw0 : w.ownsRow w.heap.size 3 1 (.slice none 0 0) (0 * n) ((P01 (ws.take 0) n).map (Value.int .i64)) := ⟨by simp [pulsesFrom], .inl ⟨rfl, by simp [pulsesFrom]⟩⟩
  go_enter Try.func51, Try.ntmps51
  go_wp2
  go_loopw [5, 6] (fun v i wr => ∃ k : Nat, k ≤ ws.length ∧ i = .int .i64 k ∧ wr.ownsRow w.heap.size 3 1 v (k * n) ((P01 (ws.take k) n).map (Value.int .i64)) ∧ Below w.heap.size w wr) (fun _ i _ => ws.length - (intOf i).toNat)
  case atStart => exact ⟨0, Nat.zero_le _, rfl, hw0, Below.refl _ _⟩
  case round =>
    obtain ⟨k, hk, rfl, hrow, hbr⟩ := hrel
    have HROW := hid hrow
    clear hrow hw0
    by_cases hlt : k < ws.length
    · obtain ⟨b, off, rfl, hc⟩ := (HX0.out.below hbr) k hlt
      obtain ⟨x, hxk⟩ : ∃ x, ws[k]?.getD 0 = x := ⟨_, rfl⟩
      have hx0 := HOK.out x (by rw [← hxk]; simp [hlt])
      rw [hxk] at hc
      have hxk' : ws[k] = x := by simpa [hlt] using hxk
      have HXK := hid hxk'
      clear hxk hxk'
      go_wp2
      obtain ⟨wo, rfl⟩ : ∃ wo : World, wo = wr := ⟨_, rfl⟩
      clear hc
      go_loopw [5, 7, 8] (fun v r i wr => ∃ j : Nat, j ≤ n ∧ i = .int .i64 j ∧ r = .int .i64 (x / 2 ^ j) ∧ wr.ownsRow w.heap.size 3 1 v (k * n + j) (((pulsesFrom (ws.take k) n ++ bitsOf x j).map p01).map (Value.int .i64)) ∧ Below w.heap.size w wr) (fun _ _ i _ => n - (intOf i).toNat)
      case atStart => exact ⟨0, Nat.zero_le _, rfl, by simp, by simpa [bitsOf] using HROW.out, hbr⟩
      case round =>
        obtain ⟨j, hj, rfl, rfl, hrow1, hbr1⟩ := hrel
        have HROW1 := hid hrow1
        clear hrow1
        by_cases hjlt : j < n
        · have hq0 : 0 ≤ x / 2 ^ j ∧ x / 2 ^ j ≤ 1099511627776 := ⟨Int.ediv_nonneg hx0.1 (Int.le_of_lt (Int.pow_pos (by omega))), Int.le_trans (Int.ediv_le_self _ hx0.1) hx0.2⟩
          have hp := p01_bit x j
          have hh := half_pow x j
          have HP := hid hp
          have HH := hid hh
          clear hp hh
          generalize x / 2 ^ j = r at *
          have hkn : k * n ≤ 64 * 40 := Nat.mul_le_mul (by omega) hn1
          have hsz := hbr1.size
          go_wp2_with (at_builtin; refine wpList_append_own _ rfl _ _ 35 rfl w.heap.size 3 iI (.int .i64 0) 1 8 Try.underlying35 hiI hzI0 hzI1 hzI2 rfl (by decide) _ _ _ rfl (HROW1.out.alloc _) ⟨wr.heap.size, 0, none⟩ 1 1 [.int .i64 (r % 2)] rfl rfl (cell_one_new _ _ _) (by intro u hu; simp at hu; subst hu; rfl) (by unfold maxLen; omega) (by omega) (by simp; omega) ?_; intro v' w3 hown3 hg3 hnil)
          go_roundw
          case rel =>
            have hg1 := ownsRow_block HROW1.out
            refine ⟨j + 1, by omega, by go_num, by rw [HH.out], ?_, (b_alloc hbr1 _).grown hg3 (by simp; omega) (fun r e => by have := hg1 r e; omega)⟩
            rw [bitsOf_succ, ← List.append_assoc, List.map_append, List.map_append, List.map_cons, List.map_nil, HP.out]
            exact hown3
          case measure => simp [intOf]; omega
        · obtain rfl : j = n := by omega
          go_wp2
          go_roundw
          case rel =>
            refine ⟨k + 1, by omega, by go_num, ?_, hbr1⟩
            have := HROW1.out
            rw [Nat.succ_mul, take_snoc hlt]
            show World.ownsRow _ _ _ _ _ _ (((pulsesFrom (ws.take k ++ [ws[k]]) j).map p01).map (Value.int .i64))
            rw [pulsesFrom_snoc, HXK.out]
            exact this
          case measure => simp [intOf]; omega
    · obtain rfl : k = ws.length := by omega
      have hrow1 := HROW.out
      rw [List.take_of_length_le (Nat.le_refl _)] at hrow1
      have hp : (P01 ws n).length = ws.length * n := by rw [List.length_map, pulsesFrom_len]
      go_wp2
      go_ret
      refine ⟨_, rfl, ?_, hbr⟩
      rw [hp]; exact hrow1
end Go.Proofs.Ytlocdkjnefmiaaa
namespace Go.Proofs.Ytlocdkjnefmiaaa
open Go.RowKit
set_option linter.unusedVariables false
set_option linter.unusedSimpArgs false

/-- Where the pulse of beat i comes from. -/
def lateIx (n : Nat) (d : Int) (i : Nat) : Nat := (((i : Int) - d) % (n : Int)).toNat
theorem lateIx_lt {n : Nat} (hn : 1 ≤ n) (d : Int) (i : Nat) : lateIx n d i < n := by
  unfold lateIx
  have h0 := Int.emod_nonneg ((i : Int) - d) (show (n : Int) ≠ 0 by omega)
  have h1 := Int.emod_lt_of_pos ((i : Int) - d) (show (0 : Int) < n by omega)
  omega
theorem lateIx_iff {n : Nat} (hn : 1 ≤ n) (d : Int) {i k : Nat} (hi : i < n) (hk : k < n) : lateIx n d i = k ↔ ((k : Int) + d) % (n : Int) = (i : Int) := by
  have h0 := Int.emod_nonneg ((i : Int) - d) (show (n : Int) ≠ 0 by omega)
  constructor
  · intro e
    have e2 : (k : Int) = ((i : Int) - d) % (n : Int) := by unfold lateIx at e; omega
    rw [e2, Int.emod_add_emod, Int.sub_add_cancel, Int.emod_eq_of_lt (by omega) (by omega)]
  · intro e
    have : ((i : Int) - d) % (n : Int) = (k : Int) := by
      rw [← e, Int.emod_sub_emod, Int.add_sub_cancel, Int.emod_eq_of_lt (by omega) (by omega)]
    unfold lateIx; omega
def lateL (ps : List Int) (d : Int) : List Int := (List.range ps.length).map fun i => ps[lateIx ps.length d i]?.getD 0
def lateTo (ps : List Int) (d : Int) (k : Nat) : List Int := (List.range ps.length).map fun i => if lateIx ps.length d i < k then ps[lateIx ps.length d i]?.getD 0 else 0
theorem lateTo_zero (ps : List Int) (d : Int) : lateTo ps d 0 = List.replicate ps.length 0 := by
  apply List.ext_getElem
  · simp [lateTo]
  · intro i h1 h2; simp [lateTo]
theorem lateTo_all (ps : List Int) (d : Int) : lateTo ps d ps.length = lateL ps d := by
  apply List.map_congr_left
  intro i hi
  have : i < ps.length := by simpa using hi
  rw [if_pos (lateIx_lt (by omega) d i)]
theorem lateTo_succ {ps : List Int} {d : Int} {k i : Nat} (hk : k < ps.length) (hi : i < ps.length) (h : ((k : Int) + d) % (ps.length : Int) = (i : Int)) : lateTo ps d (k + 1) = (lateTo ps d k).set i (ps[k]?.getD 0) := by
  apply List.ext_getElem
  · simp [lateTo]
  · intro j h1 h2
    have hj : j < ps.length := by simpa [lateTo] using h1
    rw [List.getElem_set]
    have hiff := lateIx_iff (show 1 ≤ ps.length by omega) d hj hk
    split
    · rename_i e
      subst e
      have e2 := hiff.2 h
      simp only [lateTo, List.getElem_map, List.getElem_range, e2]
      rw [if_pos (by omega)]
    · rename_i e
      simp only [lateTo, List.getElem_map, List.getElem_range]
      have hne : lateIx ps.length d j ≠ k := by
        intro x
        have := hiff.1 x
        omega
      by_cases hlt : lateIx ps.length d j < k
      · rw [if_pos hlt, if_pos (by omega)]
      · rw [if_neg hlt, if_neg (by omega)]

set_option maxRecDepth 100000 in
set_option maxHeartbeats 2000000 in
theorem refLate_any (a : Option Addr) (cap : Nat) (ps : List Int) (d : Int) (hlen : ps.length ≤ 100000) (hd : -1000000000000 ≤ d ∧ d ≤ 1000000000000) (w : World) (hx : IntsAt w a ps) :
    Calls Try.prog 50 #[.slice a ps.length cap, .int .i64 d] w fun e w' => ∃ g, e = .returned (.slice (some ⟨g, 0, none⟩) ps.length ps.length) ∧ w'.ownsRow w.heap.size 3 1 (.slice (some ⟨g, 0, none⟩) ps.length ps.length) ps.length ((lateL ps d).map (Value.int .i64)) ∧ Below w.heap.size w w' := by
  obtain ⟨iI, hiI, hzI0, hzI1, hzI2⟩ := info_parts infoI
  have HX0 := hid hx
  clear hx
  go_enter Try.func50, Try.ntmps50
  go_wp2_with (refine wpList_make_full _ rfl _ _ 35 rfl w.heap.size 3 iI (.int .i64 0) 1 Try.underlying35 hiI hzI0 hzI1 .i64 .i64 (ps.length : Int) (ps.length : Int) ps.length rfl rfl rfl rfl (by rw [hzI2]; omega) (by unfold maxLen; omega) (Nat.le_refl _) ?_; intro w2 hown hgrow)
  have hz : (madeCells (Value.int .i64 0).cells (ps.length * 1)).toList = (lateTo ps d 0).map (Value.int .i64) := by
    rw [Nat.mul_one, show (Value.int .i64 0).cells = #[Value.int .i64 0] from rfl, toList_madeCells_one, lateTo_zero, List.map_replicate]
  rw [hz] at hown
  have hBel : Below w.heap.size w w2 := below_of_grown hgrow
  clear hz hgrow
  go_loopw [7] (fun i wr => ∃ k : Nat, k ≤ ps.length ∧ i = .int .i64 k ∧ wr.ownsRow w.heap.size 3 1 (.slice (some ⟨w.heap.size, 0, none⟩) ps.length ps.length) ps.length ((lateTo ps d k).map (Value.int .i64)) ∧ Below w.heap.size w wr) (fun i _ => ps.length - (intOf i).toNat)
  case atStart => exact ⟨0, Nat.zero_le _, rfl, hown, hBel⟩
  case round =>
    obtain ⟨k, hk, rfl, hrow, hbr⟩ := hrel
    clear hown hBel
    have HROW := hid hrow
    clear hrow
    by_cases hlt : k < ps.length
    · obtain ⟨b, off, rfl, hc⟩ := (HX0.out.below hbr) k hlt
      obtain ⟨n, hn⟩ : ∃ n, ps.length = n := ⟨_, rfl⟩
      obtain ⟨x, hxk⟩ : ∃ x, ps[k]?.getD 0 = x := ⟨_, rfl⟩
      have hn1 : 1 ≤ n := by omega
      have hkn : k < n := by omega
      rw [hxk] at hc
      obtain ⟨q, hq⟩ : ∃ q, ((k : Int) + d).tmod (n : Int) = q := ⟨_, rfl⟩
      have qb := tmod_bd ((k : Int) + d) (n : Int) (by omega)
      rw [hq] at qb
      have h0 := Int.emod_nonneg ((k : Int) + d) (show (n : Int) ≠ 0 by omega)
      have h1 := Int.emod_lt_of_pos ((k : Int) + d) (show (0 : Int) < n by omega)
      obtain ⟨i, hi⟩ : ∃ i : Nat, ((k : Int) + d) % (n : Int) = (i : Int) := ⟨(((k : Int) + d) % (n : Int)).toNat, by omega⟩
      have hq2 : (q + (n : Int)).tmod (n : Int) = (i : Int) := by rw [← hq, tmod_fix _ _ (by omega), hi]
      have hin : i < n := by omega
      have hlen2 : (lateTo ps d k).length = n := by simp [lateTo, hn]
      have hcell := HROW.out.cellAt i (by omega)
      have hcell' : wr.cell? ⟨w.heap.size, i, none⟩ = some (.int .i64 ((lateTo ps d k)[i]?.getD 0)) := hcell.trans (by simp [hlen2, hin])
      have hfr := HROW.out.frozenAt i
      have hsu := lateTo_succ (ps := ps) (d := d) (i := i) hlt (by omega) (by rw [hn]; exact hi)
      rw [hxk] at hsu
      have HSU := hid hsu
      have HNN := hid hn
      rw [hn]
      generalize (lateTo ps d k)[i]?.getD 0 = y at *
      clear hcell hsu hxk h0 h1 hi
      have hnz : ¬ (n : Int) = 0 := by omega
      have hnz2 : ¬ n = 0 := by omega
      have f0 : IntKind.i64.wrap ((k : Int) + d) = (k : Int) + d := IntWalk.i64_in _ (by omega)
      have f1 : IntKind.i64.wrap q = q := IntWalk.i64_in _ (by omega)
      have f2 : IntKind.i64.wrap (q + (n : Int)) = q + (n : Int) := IntWalk.i64_in _ (by omega)
      have f3 : IntKind.i64.wrap (i : Int) = (i : Int) := IntWalk.i64_in _ (by omega)
      have g1 : (i : Int) < (n : Int) := by omega
      have g2 : (0 : Int) ≤ (i : Int) := by omega
      have g3 : (k : Int) < (n : Int) := by omega
      have g4 : (0 : Int) ≤ (k : Int) := by omega
      clear hn hlen2
      go_wp2
      go_still_tail 15, (by kernel_rfl)
      change wpList _ _ _ _ _ wr.drew
      go_wp2
      go_roundw
      case rel =>
        have hst := HROW.out.stored i (.int .i64 x)
        refine ⟨k + 1, by have := HNN.out; omega, by go_num, ?_, by (repeat (first | assumption | exact Below.refl _ _ | refine b_alloc ?_ _ | refine Below.drew ?_ | refine b_drewN ?_ _ | refine Below.setCell ?_ (by first | omega | (simp; done) | (simp; omega)) _ | refine b_call (by assumption) ?_))⟩
        rw [HSU.out, List.map_set]
        have hs1 := hst.1.drew
        rw [HNN.out] at hs1
        exact hs1
      case measure => simp [intOf]; omega
    · obtain rfl : k = ps.length := by omega
      have hrow := HROW.out
      rw [lateTo_all] at hrow
      go_wp2
      go_ret
      exact ⟨_, rfl, hrow, hbr⟩
end Go.Proofs.Ytlocdkjnefmiaaa
namespace Go.Proofs.Ytlocdkjnefmiaaa
open Go.RowKit
set_option linter.unusedVariables false
set_option linter.unusedSimpArgs false

/-- The word i, of the pulses from the beat K on. -/
def hiAt (bs : List Bool) (n K i : Nat) : Int := val ((bs.take ((i + 1) * n)).drop (max K (i * n)))
def hiTo (bs : List Bool) (n m K : Nat) : List Int := (List.range m).map (hiAt bs n K)
theorem hiTo_top {bs : List Bool} {n m : Nat} (h : bs.length = m * n) : hiTo bs n m bs.length = List.replicate m 0 := by
  apply List.ext_getElem
  · simp [hiTo]
  · intro i h1 h2
    simp only [hiTo, List.getElem_map, List.getElem_range, List.getElem_replicate]
    unfold hiAt
    rw [List.drop_eq_nil_of_le (by simp; omega)]
    rfl
theorem hiTo_all {bs : List Bool} {n m : Nat} : hiTo bs n m 0 = joined bs n m := by
  apply List.map_congr_left
  intro i _
  unfold hiAt wordAt
  rw [Nat.zero_max, List.take_length]
  congr 1
  rw [List.drop_take]
  congr 1
  rw [Nat.succ_mul]; omega
theorem hiAt_bd {bs : List Bool} {n K i : Nat} : 0 ≤ hiAt bs n K i ∧ hiAt bs n K i < 2 ^ n := by
  have h := val_bd ((bs.take ((i + 1) * n)).drop (max K (i * n)))
  refine ⟨h.1, Int.lt_of_lt_of_le h.2 ?_⟩
  have hl : ((bs.take ((i + 1) * n)).drop (max K (i * n))).length ≤ n := by
    simp only [List.length_drop, List.length_take]
    rw [Nat.succ_mul]; omega
  have := Nat.pow_le_pow_right (show 0 < 2 by omega) hl
  have c : ∀ k : Nat, ((2 ^ k : Nat) : Int) = (2 : Int) ^ k := fun k => by simp
  rw [← c, ← c]; omega
theorem hiAt_step {bs : List Bool} {n j : Nat} (hn : 1 ≤ n) (hj : j < bs.length) : hiAt bs n j (j / n) = p01 (bs[j]) + 2 * hiAt bs n (j + 1) (j / n) := by
  have e := Nat.div_add_mod j n
  have m := Nat.mod_lt j (show 0 < n by omega)
  have e2 : j / n * n = n * (j / n) := Nat.mul_comm _ _
  have e3 : (j / n + 1) * n = j / n * n + n := Nat.succ_mul _ _
  unfold hiAt
  rw [Nat.max_eq_left (show j / n * n ≤ j by omega), Nat.max_eq_left (show j / n * n ≤ j + 1 by omega)]
  have hl : j < (bs.take ((j / n + 1) * n)).length := by simp; omega
  rw [List.drop_eq_getElem_cons hl, val, List.getElem_take]
  rfl
theorem hiAt_other {bs : List Bool} {n j i : Nat} (hn : 1 ≤ n) (hi : i ≠ j / n) : hiAt bs n j i = hiAt bs n (j + 1) i := by
  have e := Nat.div_add_mod j n
  have m := Nat.mod_lt j (show 0 < n by omega)
  have e2 : j / n * n = n * (j / n) := Nat.mul_comm _ _
  have e3 : (i + 1) * n = i * n + n := Nat.succ_mul _ _
  unfold hiAt
  rcases Nat.lt_or_gt_of_ne hi with h | h
  · have h2 : (i + 1) * n ≤ j / n * n := Nat.mul_le_mul_right n h
    rw [List.drop_eq_nil_of_le (by simp; omega), List.drop_eq_nil_of_le (by simp; omega)]
  · have h2 : (j / n + 1) * n ≤ i * n := Nat.mul_le_mul_right n h
    have h3 : (j / n + 1) * n = j / n * n + n := Nat.succ_mul _ _
    rw [Nat.max_eq_right (by omega), Nat.max_eq_right (by omega)]
theorem hiTo_step {bs : List Bool} {n m j i : Nat} {y : Int} (hn : 1 ≤ n) (hj : j < bs.length) (hi : j / n = i) (h : hiAt bs n j i = y) : hiTo bs n m j = (hiTo bs n m (j + 1)).set i y := by
  apply List.ext_getElem
  · simp [hiTo]
  · intro k h1 h2
    rw [List.getElem_set]
    split
    · rename_i e; subst e; simp [hiTo, h]
    · rename_i e
      simp only [hiTo, List.getElem_map, List.getElem_range]
      exact hiAt_other hn (by omega)

set_option maxRecDepth 100000 in
set_option maxHeartbeats 2000000 in
theorem refJoined_any (a : Option Addr) (cap : Nat) (bs : List Bool) (n m : Nat) (hn : 1 ≤ n ∧ n ≤ 40) (hm : m ≤ 64) (hlen : bs.length = m * n) (w : World) (hx : IntsAt w a (bs.map p01)) :
    Calls Try.prog 49 #[.slice a bs.length cap, .int .i64 (n : Int)] w fun e w' => ∃ g, e = .returned (.slice (some ⟨g, 0, none⟩) m m) ∧ w'.ownsRow w.heap.size 3 1 (.slice (some ⟨g, 0, none⟩) m m) m ((joined bs n m).map (Value.int .i64)) ∧ Below w.heap.size w w' := by
  obtain ⟨iI, hiI, hzI0, hzI1, hzI2⟩ := info_parts infoI
  have hmn : m * n ≤ 64 * 40 := Nat.mul_le_mul hm hn.2
  have HX0 := hid hx
  have hq : (bs.length : Int).tdiv (n : Int) = (m : Int) := by
    rw [hlen, Int.tdiv_eq_ediv_of_nonneg (by omega), Int.natCast_mul, Int.mul_ediv_cancel _ (by omega)]
  have hnz : ¬ (n : Int) = 0 := by omega
  have hnz2 : ¬ n = 0 := by omega
  have hq2 : IntKind.i64.wrap (m : Int) = (m : Int) := IntWalk.i64_in _ (by omega)
  have hL : bs.length ≤ 2560 := by omega
  have HL := hid hlen
  clear hx hlen
  go_enter Try.func49, Try.ntmps49
  go_wp2_with (refine wpList_make_full _ rfl _ _ 35 rfl w.heap.size 3 iI (.int .i64 0) 1 Try.underlying35 hiI hzI0 hzI1 .i64 .i64 (m : Int) (m : Int) m rfl rfl rfl rfl (by rw [hzI2]; omega) (by unfold maxLen; omega) (Nat.le_refl _) ?_; intro w2 hown hgrow)
  have hz : (madeCells (Value.int .i64 0).cells (m * 1)).toList = (hiTo bs n m bs.length).map (Value.int .i64) := by
    rw [Nat.mul_one, show (Value.int .i64 0).cells = #[Value.int .i64 0] from rfl, toList_madeCells_one, hiTo_top HL.out, List.map_replicate]
  rw [hz] at hown
  have hBel : Below w.heap.size w w2 := below_of_grown hgrow
  clear hz hgrow hq hq2
  go_loopg [6] bs.length (fun K i wr => K ≤ bs.length ∧ i = .int .i64 ((K : Int) - 1) ∧ wr.ownsRow w.heap.size 3 1 (.slice (some ⟨w.heap.size, 0, none⟩) m m) m ((hiTo bs n m K).map (Value.int .i64)) ∧ Below w.heap.size w wr)
  case atStart => exact ⟨Nat.le_refl _, rfl, hown, hBel⟩
  case round =>
    obtain ⟨hk, rfl, hrow, hbr⟩ := hrel
    clear hown hBel
    have HROW := hid hrow
    clear hrow
    cases gk with
    | zero =>
      have hrow := HROW.out
      rw [hiTo_all] at hrow
      go_wp2
      go_ret
      exact ⟨_, rfl, hrow, hbr⟩
    | succ j =>
      have hjL : j < bs.length := by omega
      have hj : j < bs.length := by omega
      rw [show ((j + 1 : Nat) : Int) - 1 = (j : Int) by omega]
      obtain ⟨b, off, rfl, hc⟩ := (HX0.out.below hbr) j (by simpa using hj)
      obtain ⟨i, hi⟩ : ∃ i, j / n = i := ⟨_, rfl⟩
      have him : i < m := by rw [← hi]; exact Nat.div_lt_of_lt_mul (by have := HL.out; rw [Nat.mul_comm]; omega)
      have e1 : (j : Int).tdiv (n : Int) = (i : Int) := by rw [Int.tdiv_eq_ediv_of_nonneg (by omega), ← hi]; simp
      have hpb : p01 bs[j] = 0 ∨ p01 bs[j] = 1 := by unfold p01; split <;> simp
      have hst := hiAt_step hn.1 hj
      rw [hi] at hst
      have hyb := @hiAt_bd bs n (j + 1) i
      have hp2 : (2 : Int) ^ n ≤ 1099511627776 := (pow_bd hn.2).2
      have hcell := (HROW.out.cellAt i (by simp [hiTo]; omega)).trans (show _ = some (Value.int .i64 (hiAt bs n (j + 1) i)) by simp [hiTo, him])
      have hfr := HROW.out.frozenAt i
      have hc2 : wr.cell? ⟨b, off + j, none⟩ = some (.int .i64 (p01 bs[j])) := hc.trans (by simp [hj])
      have hsu := hiTo_step (m := m) hn.1 hj hi hst
      have HSU := hid hsu
      generalize hiAt bs n (j + 1) i = y at *
      generalize p01 bs[j] = x at *
      have hxb : 0 ≤ x ∧ x ≤ 1 := by omega
      have hyb2 : y ≤ 1099511627776 := by omega
      have hyb0 := hyb.1
      have hcom : 2 * y + x = x + 2 * y := by omega
      rw [← hcom] at HSU
      clear hc hst hsu hi hpb hp2 hyb hcom
      have f1 : IntKind.i64.wrap (i : Int) = (i : Int) := IntWalk.i64_in _ (by omega)
      have f2 : IntKind.i64.wrap (2 * y) = 2 * y := IntWalk.i64_in _ (by omega)
      have f3 : IntKind.i64.wrap (2 * y + x) = 2 * y + x := IntWalk.i64_in _ (by omega)
      have g1 : (i : Int) < (m : Int) := by omega
      have g2 : (0 : Int) ≤ (i : Int) := by omega
      have g3 : (j : Int) < (bs.length : Int) := by omega
      have g4 : (0 : Int) ≤ (j : Int) := by omega
      go_wp2
      go_still_tail 17, (by kernel_rfl)
      change wpList _ _ _ _ _ wr.drew
      go_wp2
      go_roundg j
      case rel =>
        have hst := HROW.out.stored i (.int .i64 (2 * y + x))
        refine ⟨by omega, rfl, ?_, by (repeat (first | assumption | exact Below.refl _ _ | refine b_alloc ?_ _ | refine Below.drew ?_ | refine b_drewN ?_ _ | refine Below.setCell ?_ (by first | omega | (simp; done) | (simp; omega)) _ | refine b_call (by assumption) ?_))⟩
        rw [HSU.out, List.map_set]
        exact hst.1.drew
      case measure => omega
end Go.Proofs.Ytlocdkjnefmiaaa
namespace Go.Proofs.Ytlocdkjnefmiaaa
open Go.RowKit
set_option linter.unusedVariables false
set_option linter.unusedSimpArgs false

/-- The pulses after the first k rounds, as the reference follows them. -/
def pulsesTo (l : Ln) (ws ts : List Int) (n k : Nat) : List Bool :=
  if (firstLost l (ts.take k)).isSome then List.replicate (ws.length * n) false else roundsL l ts (pulsesFrom ws n) (List.range k)
/-- The round in which pulses are lost first, of the first k. -/
def lostAt (l : Ln) (ts : List Int) (k : Nat) : Int := match firstLost l (ts.take k) with | some j => (j : Int) | none => -1
theorem firstLost_zero (l : Ln) (ts : List Int) : firstLost l (ts.take 0) = none := by simp [firstLost]
theorem find_same {p q : Nat → Bool} : ∀ (xs : List Nat), (∀ x ∈ xs, p x = q x) → xs.find? p = xs.find? q
  | [], _ => rfl
  | x :: xs, h => by
    rw [List.find?_cons, List.find?_cons, h x (by simp), find_same xs (fun y hy => h y (by simp [hy]))]
theorem firstLost_succ (l : Ln) (ts : List Int) (k : Nat) (hk : k < ts.length) : firstLost l (ts.take (k + 1)) = match firstLost l (ts.take k) with | some j => some j | none => if l.rL (ts[k]?.getD 0) then some k else none := by
  have hcong : ∀ (n : Nat), n ≤ k → (List.range n).find? (fun j => l.rL ((ts.take (k + 1))[j]?.getD 0)) = (List.range n).find? (fun j => l.rL ((ts.take k)[j]?.getD 0)) := by
    intro n hn
    apply find_same
    intro j hj
    have : j < n := by simpa using hj
    rw [List.getElem?_take_of_lt (by omega), List.getElem?_take_of_lt (by omega)]
  unfold firstLost
  rw [List.length_take, List.length_take, Nat.min_eq_left (by omega), Nat.min_eq_left (by omega), List.range_succ, List.find?_append, hcong k (Nat.le_refl _)]
  rw [List.find?_cons, List.find?_nil, List.getElem?_take_of_lt (by omega)]
  cases (List.range k).find? (fun j => l.rL ((ts.take k)[j]?.getD 0)) with
  | some j => rfl
  | none => cases l.rL (ts[k]?.getD 0) <;> rfl
theorem lateL_rot (bs : List Bool) (d : Int) (hL : 1 ≤ bs.length) : lateL (bs.map p01) d = (rot bs (d % (bs.length : Int)).toNat).map p01 := by
  apply List.ext_getElem?
  intro i
  by_cases hi : i < bs.length
  · have h0 := Int.emod_nonneg d (show (bs.length : Int) ≠ 0 by omega)
    have h1 := Int.emod_lt_of_pos d (show (0 : Int) < bs.length by omega)
    have hx := lateIx_lt hL d i
    rw [List.getElem?_map, rot_get _ _ _ (by omega) hi, from_mod _ hL i hi]
    unfold lateL
    rw [List.getElem?_map, List.getElem?_range (by simpa using hi)]
    simp only [Option.map_some, List.length_map]
    have e : lateIx bs.length d i = (((i : Int) - d) % (bs.length : Int)).toNat := rfl
    rw [← e, List.getElem?_map, List.getElem?_eq_getElem hx]
    rfl
  · rw [List.getElem?_eq_none (by simp [lateL]; omega), List.getElem?_eq_none (by simp [rot_len]; omega)]
theorem rot_zeros (n p : Nat) : rot (List.replicate n false) p = List.replicate n false := by
  unfold rot
  simp only [List.length_replicate, List.drop_replicate, List.take_replicate, List.replicate_append_replicate]
  congr 1; omega
theorem pulsesTo_len (l : Ln) (ws ts : List Int) (n k : Nat) : (pulsesTo l ws ts n k).length = ws.length * n := by
  unfold pulsesTo; split
  · simp
  · rw [roundsL_len, pulsesFrom_len]
theorem joined_zeros (n m : Nat) : joined (List.replicate (m * n) false) n m = List.replicate m 0 := by
  have hv : ∀ k, val (List.replicate k false) = 0 := fun k => by induction k with | zero => rfl | succ k ih => rw [List.replicate_succ, val, ih]; rfl
  apply List.ext_getElem
  · simp [joined]
  · intro i h1 h2
    simp only [joined, List.getElem_map, List.getElem_range, List.getElem_replicate]
    unfold wordAt
    rw [List.take_length, List.drop_replicate, List.take_replicate, hv]

set_option maxRecDepth 100000 in
set_option maxHeartbeats 4000000 in
/-- An error ahead of the temperatures. -/
theorem refPass_early (l : Ln) (a b : Option Addr) (ca cb : Nat) (ws ts : List Int) (hle : Len ts.length) (er : Int) (w : World) (hx : IntsAt w a ws)
    (hc : (¬ l.Ok ∧ er = 7) ∨ (l.Ok ∧ wordsErr l ws = er ∧ er ≠ 0) ∨ (l.Ok ∧ wordsErr l ws = 0 ∧ 60 < ts.length ∧ er = 3)) :
    Calls Try.prog 30 #[l.val, .slice a ws.length ca, .slice b ts.length cb] w (Ret w (.tuple #[.slice none 0 0, .int .i64 0, .int .i64 er])) := by
  have HX := hid hx
  have hL0 := hid (lnAt_new' l w)
  clear hx
  rcases hc with ⟨h, rfl⟩ | ⟨h, he, hne⟩ | ⟨h, he, hlt, rfl⟩
  · go_enter Try.func30, Try.ntmps30
    go_wp2_with (first
      | (go_at_call 26; refine (refCheck_no l h _).mono ?_; rintro e w1 ⟨rfl, hb1⟩; have HB1 := hid (show Below w.heap.size w w1 by (repeat (first | assumption | exact Below.refl _ _ | refine b_alloc ?_ _ | refine Below.drew ?_ | refine b_drewN ?_ _ | refine Below.setCell ?_ (by first | omega | (simp; done) | (simp; omega)) _ | refine b_call (by assumption) ?_))); clear hb1))
    go_loopw [9, 10] (fun e i wr => e = .int .i64 7 ∧ i = .int .i64 0 ∧ w1 = wr) (fun _ _ _ => 0)
    case atStart => exact ⟨rfl, rfl, rfl⟩
    case round =>
      obtain ⟨rfl, rfl, rfl⟩ := hrel
      by_cases hz : 0 < ts.length
      · have hz2 : (0 : Int) < (ts.length : Int) := by omega
        go_wp2
        go_ret3
        exact ⟨rfl, HB1.out⟩
      · have hz2 : ¬ (0 : Int) < (ts.length : Int) := by omega
        go_wp2
        go_ret3
        exact ⟨rfl, HB1.out⟩
  · have hW := fun W hx => refWords_any l h a ca ws W hx
    rw [he] at hW
    have HW := hid hW
    clear he hW
    go_enter Try.func30, Try.ntmps30
    go_wp2_with (first
      | (go_at_call 26; refine (refCheck_ok l h _).mono ?_; rintro e w1 ⟨rfl, hb1⟩; have HB1 := hid (show Below w.heap.size w w1 by (repeat (first | assumption | exact Below.refl _ _ | refine b_alloc ?_ _ | refine Below.drew ?_ | refine b_drewN ?_ _ | refine Below.setCell ?_ (by first | omega | (simp; done) | (simp; omega)) _ | refine b_call (by assumption) ?_))); have hL1 := hid (lnAt_call hL0.out hb1); obtain ⟨d0, d1, d2, d3, d4, d5⟩ := hL1.out; clear hb1)
      | (go_at_call 68; refine (HW.out _ (HX.out.below HB1.out)).mono ?_; rintro e w2 ⟨rfl, hb2⟩; have HB2 := hid (show Below w.heap.size w w2 from b_call hb2 (by have hq := HB1.out; (repeat (first | assumption | exact Below.refl _ _ | refine b_alloc ?_ _ | refine Below.drew ?_ | refine b_drewN ?_ _ | refine Below.setCell ?_ (by first | omega | (simp; done) | (simp; omega)) _ | refine b_call (by assumption) ?_)))); clear hb2; clear d0 d1 d2 d3 d4 d5))
    go_loopw [9, 10] (fun e i wr => e = .int .i64 er ∧ i = .int .i64 0 ∧ w2 = wr) (fun _ _ _ => 0)
    case atStart => exact ⟨rfl, rfl, rfl⟩
    case round =>
      obtain ⟨rfl, rfl, rfl⟩ := hrel
      by_cases hz : 0 < ts.length
      · have hz2 : (0 : Int) < (ts.length : Int) := by omega
        go_wp2
        go_ret3
        exact ⟨rfl, HB2.out⟩
      · have hz2 : ¬ (0 : Int) < (ts.length : Int) := by omega
        go_wp2
        go_ret3
        exact ⟨rfl, HB2.out⟩
  · have hW := fun W hx => refWords_any l h a ca ws W hx
    rw [he] at hW
    have HW := hid hW
    clear he hW
    have hlt2 : (60 : Int) < (ts.length : Int) := by omega
    go_enter Try.func30, Try.ntmps30
    go_wp2_with (first
      | (go_at_call 26; refine (refCheck_ok l h _).mono ?_; rintro e w1 ⟨rfl, hb1⟩; have HB1 := hid (show Below w.heap.size w w1 by (repeat (first | assumption | exact Below.refl _ _ | refine b_alloc ?_ _ | refine Below.drew ?_ | refine b_drewN ?_ _ | refine Below.setCell ?_ (by first | omega | (simp; done) | (simp; omega)) _ | refine b_call (by assumption) ?_))); have hL1 := hid (lnAt_call hL0.out hb1); obtain ⟨d0, d1, d2, d3, d4, d5⟩ := hL1.out; clear hb1)
      | (go_at_call 68; refine (HW.out _ (HX.out.below HB1.out)).mono ?_; rintro e w2 ⟨rfl, hb2⟩; have HB2 := hid (show Below w.heap.size w w2 from b_call hb2 (by have hq := HB1.out; (repeat (first | assumption | exact Below.refl _ _ | refine b_alloc ?_ _ | refine Below.drew ?_ | refine b_drewN ?_ _ | refine Below.setCell ?_ (by first | omega | (simp; done) | (simp; omega)) _ | refine b_call (by assumption) ?_)))); clear hb2; clear d0 d1 d2 d3 d4 d5))
    go_loopw [9, 10] (fun e i wr => e = .int .i64 3 ∧ i = .int .i64 0 ∧ w2 = wr) (fun _ _ _ => 0)
    case atStart => exact ⟨rfl, rfl, rfl⟩
    case round =>
      obtain ⟨rfl, rfl, rfl⟩ := hrel
      by_cases hz : 0 < ts.length
      · have hz2 : (0 : Int) < (ts.length : Int) := by omega
        go_wp2
        go_ret3
        exact ⟨rfl, HB2.out⟩
      · have hz2 : ¬ (0 : Int) < (ts.length : Int) := by omega
        go_wp2
        go_ret3
        exact ⟨rfl, HB2.out⟩

set_option maxRecDepth 100000 in
set_option maxHeartbeats 4000000 in
/-- A number that is no temperature. -/
theorem refPass_temp (l : Ln) (h : l.Ok) (a b : Option Addr) (ca cb : Nat) (ws ts : List Int) (hlt : ts.length ≤ 60) (he : wordsErr l ws = 0) (hbad : ¬ tempsOk ts) (w : World) (hx : IntsAt w a ws) (hy : IntsAt w b ts) :
    Calls Try.prog 30 #[l.val, .slice a ws.length ca, .slice b ts.length cb] w (Ret w (.tuple #[.slice none 0 0, .int .i64 0, .int .i64 7])) := by
  have HX := hid hx
  have HY := hid hy
  have HBAD := hid hbad
  have hL0 := hid (lnAt_new' l w)
  have hW := fun W hx => refWords_any l h a ca ws W hx
  rw [he] at hW
  have HW := hid hW
  clear hx hy he hW hbad
  have hlt2 : (ts.length : Int) ≤ 60 := by omega
  go_enter Try.func30, Try.ntmps30
  go_wp2_with (first
    | (go_at_call 26; refine (refCheck_ok l h _).mono ?_; rintro e w1 ⟨rfl, hb1⟩; have HB1 := hid (show Below w.heap.size w w1 by (repeat (first | assumption | exact Below.refl _ _ | refine b_alloc ?_ _ | refine Below.drew ?_ | refine b_drewN ?_ _ | refine Below.setCell ?_ (by first | omega | (simp; done) | (simp; omega)) _ | refine b_call (by assumption) ?_))); have hL1 := hid (lnAt_call hL0.out hb1); obtain ⟨d0, d1, d2, d3, d4, d5⟩ := hL1.out; clear hb1)
    | (go_at_call 68; refine (HW.out _ (HX.out.below HB1.out)).mono ?_; rintro e w2 ⟨rfl, hb2⟩; have HB2 := hid (show Below w.heap.size w w2 from b_call hb2 (by have hq := HB1.out; (repeat (first | assumption | exact Below.refl _ _ | refine b_alloc ?_ _ | refine Below.drew ?_ | refine b_drewN ?_ _ | refine Below.setCell ?_ (by first | omega | (simp; done) | (simp; omega)) _ | refine b_call (by assumption) ?_)))); clear hb2; clear d0 d1 d2 d3 d4 d5))
  go_loopw [9, 10] (fun e i wr => ∃ k : Nat, k ≤ ts.length ∧ i = .int .i64 k ∧ w2 = wr ∧ ((e = .int .i64 0 ∧ ∀ j, j < k → Temp (ts[j]?.getD 0)) ∨ (e = .int .i64 7))) (fun _ i _ => ts.length - (intOf i).toNat)
  case atStart => exact ⟨0, Nat.zero_le _, rfl, rfl, .inl ⟨rfl, fun j hj => by omega⟩⟩
  case round =>
    obtain ⟨k, hk, rfl, rfl, hr⟩ := hrel
    by_cases hlt3 : k < ts.length
    · rcases hr with ⟨rfl, hg⟩ | rfl
      · have HG := hid hg
        clear hg
        obtain ⟨bb, off, rfl, hc⟩ := (HY.out.below HB2.out) k hlt3
        obtain ⟨tk, htk⟩ : ∃ tk, ts[k]?.getD 0 = tk := ⟨_, rfl⟩
        rw [htk] at hc
        have HTK := hid htk
        clear htk
        by_cases ht : Temp tk
        · have HT := hid ht
          have hT := fun W => Temp_any tk W
          rw [decide_eq_true ht] at hT
          have HTT := hid hT
          clear hT ht
          go_wp2_with (go_at_call 47; refine (HTT.out _).mono ?_; rintro e w3 ⟨rfl, rfl⟩)
          go_roundw
          case rel =>
            refine ⟨k + 1, by omega, by go_num, trivial, .inl ⟨rfl, fun j hj => ?_⟩⟩
            by_cases e : j = k
            · rw [e, HTK.out]; exact HT.out
            · exact HG.out j (by omega)
          case measure => simp [intOf]; omega
        · have hT := fun W => Temp_any tk W
          rw [decide_eq_false ht] at hT
          have HTT := hid hT
          clear hT ht
          go_wp2_with (go_at_call 47; refine (HTT.out _).mono ?_; rintro e w3 ⟨rfl, rfl⟩)
          go_roundw
          case rel => exact ⟨k + 1, by omega, by go_num, trivial, .inr rfl⟩
          case measure => simp [intOf]; omega
      · go_wp2
        go_ret3
        exact ⟨rfl, HB2.out⟩
    · obtain rfl : k = ts.length := by omega
      rcases hr with ⟨rfl, hg⟩ | rfl
      · exact absurd (tempsOk_step hg) HBAD.out
      · go_wp2
        go_ret3
        exact ⟨rfl, HB2.out⟩
end Go.Proofs.Ytlocdkjnefmiaaa
namespace Go.Proofs.Ytlocdkjnefmiaaa
open Go.RowKit
set_option linter.unusedVariables false
set_option linter.unusedSimpArgs false

theorem firstLost_nil (l : Ln) : firstLost l [] = none := by simp [firstLost]
theorem rS_bd {l : Ln} (h : l.Ok) {t : Int} (ht : Temp t) : -2000000000 ≤ l.rS t ∧ l.rS t ≤ 2000000000 := by
  have hb := h.late_bd ht.1 ht.2
  obtain ⟨_, _, h3, _, _, h6⟩ := id h
  unfold Ln.rS Ln.shift
  split
  · simp
  · simp only [Option.getD_some]
    have e := Int.mul_ediv_add_emod (l.late t + l.N) l.P
    have h0 := Int.emod_nonneg (l.late t + l.N) (show l.P ≠ 0 by omega)
    have h1 := Int.emod_lt_of_pos (l.late t + l.N) (show 0 < l.P by omega)
    generalize (l.late t + l.N) / l.P = q at *
    constructor
    · by_cases g : 0 ≤ q
      · omega
      · have := Int.mul_le_mul_of_nonneg_right (show (2 : Int) ≤ l.P by omega) (show 0 ≤ -q by omega)
        have e2 : l.P * -q = -(l.P * q) := Int.mul_neg _ _
        omega
    · by_cases g : q ≤ 0
      · omega
      · have := Int.mul_le_mul_of_nonneg_right (show (2 : Int) ≤ l.P by omega) (show 0 ≤ q by omega)
        omega
theorem pulsesTo_step (l : Ln) (ws ts : List Int) (n k : Nat) (hk : k < ts.length) : pulsesTo l ws ts n (k + 1) = if l.rL (ts[k]?.getD 0) then List.replicate (ws.length * n) false else rot (pulsesTo l ws ts n k) (l.rS (ts[k]?.getD 0) % ((ws.length * n : Nat) : Int)).toNat := by
  unfold pulsesTo
  rw [firstLost_succ l ts k hk]
  cases hf : firstLost l (ts.take k) with
  | some j =>
    simp only [Option.isSome_some, if_true]
    rw [rot_zeros]; simp
  | none =>
    cases hl : l.rL (ts[k]?.getD 0) with
    | true => simp
    | false =>
      simp only [Bool.false_eq_true, if_false, Option.isSome_none]
      rw [List.range_succ, roundsL_snoc, pulsesFrom_len]
theorem lostAt_step (l : Ln) (ts : List Int) (k : Nat) (hk : k < ts.length) : lostAt l ts (k + 1) = if lostAt l ts k < 0 then (if l.rL (ts[k]?.getD 0) then (k : Int) else -1) else lostAt l ts k := by
  unfold lostAt
  rw [firstLost_succ l ts k hk]
  cases hf : firstLost l (ts.take k) with
  | some j => simp only; rw [if_neg (by omega)]
  | none => cases hl : l.rL (ts[k]?.getD 0) <;> simp

set_option maxRecDepth 100000 in
set_option maxHeartbeats 8000000 in
theorem refPass_good (m n : Nat) (lp ld ls ln : Int) (h : (Ln.mk m n lp ld ls ln).Ok) (a b : Option Addr) (ca cb : Nat) (ws ts : List Int) (hwl : ws.length = m) (hok : wordsOk (n : Int) ws) (hlt : ts.length ≤ 60) (ht : tempsOk ts) (w : World) (hx : IntsAt w a ws) (hy : IntsAt w b ts) :
    Calls Try.prog 30 #[Ln.val ⟨m, n, lp, ld, ls, ln⟩, .slice a ws.length ca, .slice b ts.length cb] w (RetL w (joined (pulsesTo ⟨m, n, lp, ld, ls, ln⟩ ws ts n ts.length) n m) (lostAt ⟨m, n, lp, ld, ls, ln⟩ ts ts.length) 0) := by
  obtain ⟨iI, hiI, hzI0, hzI1, hzI2⟩ := info_parts infoI
  obtain ⟨h1, h2, _⟩ := id h
  simp only at h1 h2
  have HX := hid hx
  have HY := hid hy
  have hW : ∀ W, IntsAt W a ws → Calls Try.prog 68 #[Ln.val ⟨m, n, lp, ld, ls, ln⟩, .slice a ws.length ca] W (Ret W (.int .i64 0)) := fun W g => by
    have := refWords_any ⟨m, n, lp, ld, ls, ln⟩ h a ca ws W g
    rw [show wordsErr ⟨m, n, lp, ld, ls, ln⟩ ws = 0 by unfold wordsErr wErr; rw [if_pos (by simp only; omega), if_pos hok]] at this
    exact this
  have HW := hid hW
  obtain ⟨L, hL⟩ : ∃ L, m * n = L := ⟨_, rfl⟩
  have hwn : ws.length * n = L := by rw [hwl, hL]
  have hPL : ∀ W, IntsAt W a ws → Calls Try.prog 51 #[.slice a ws.length ca, .int .i64 (n : Int)] W fun e w' => ∃ a' c', e = .returned (.slice a' L c') ∧ IntsAt w' a' (P01 ws n) ∧ Below W.heap.size W w' := fun W g => by
    refine (refPulses_any a ca ws n (by omega) (by omega) (fun x hx => by have := hok x hx; have := pw_bd (show (n : Int) ≤ 40 by omega); omega) W g).mono ?_
    rintro e w' ⟨v, rfl, hr, hb⟩
    obtain ⟨a3, c3, rfl, hi3⟩ := rowIntsI hr
    exact ⟨a3, c3, by rw [List.length_map, pulsesFrom_len, hwn], hi3, hb⟩
  have HPL := hid hPL
  have hL0 := hid (lnAt_new' ⟨m, n, lp, ld, ls, ln⟩ w)
  have HH := hid h
  have HT := hid ht
  have HWL := hid hwl
  have hLb : 1 ≤ L ∧ L ≤ 2560 := by
    have h1' := Nat.mul_le_mul (show 1 ≤ m by omega) (show 1 ≤ n by omega)
    have h2' := Nat.mul_le_mul (show m ≤ 64 by omega) (show n ≤ 40 by omega)
    omega
  have HLL := hid hL
  have HWN := hid hwn
  clear hx hy hW hPL h ht hwl hL hok hwn
  have hlt2 : (ts.length : Int) ≤ 60 := by omega
  go_enter Try.func30, Try.ntmps30
  go_wp2_with (first
    | (go_at_call 26; refine (refCheck_ok _ HH.out _).mono ?_; rintro e w1 ⟨rfl, hb1⟩; have HB1 := hid (show Below w.heap.size w w1 by (repeat (first | assumption | exact Below.refl _ _ | refine b_alloc ?_ _ | refine Below.drew ?_ | refine b_drewN ?_ _ | refine Below.setCell ?_ (by first | omega | (simp; done) | (simp; omega)) _ | refine b_call (by assumption) ?_))); have hL1 := hid (lnAt_call hL0.out hb1); obtain ⟨d0, d1, d2, d3, d4, d5⟩ := hL1.out; clear hb1)
    | (go_at_call 68; refine (HW.out _ (HX.out.below HB1.out)).mono ?_; rintro e w2 ⟨rfl, hb2⟩; have hL2 := hid (lnAt_call hL1.out hb2); have HB2 := hid (show Below w.heap.size w w2 from b_call hb2 (by have hq := HB1.out; (repeat (first | assumption | exact Below.refl _ _ | refine b_alloc ?_ _ | refine Below.drew ?_ | refine b_drewN ?_ _ | refine Below.setCell ?_ (by first | omega | (simp; done) | (simp; omega)) _ | refine b_call (by assumption) ?_)))); clear hb2; clear d0 d1 d2 d3 d4 d5))
  go_loopw [9, 10] (fun e i wr => ∃ k : Nat, k ≤ ts.length ∧ i = .int .i64 k ∧ w2 = wr ∧ e = .int .i64 0) (fun _ i _ => ts.length - (intOf i).toNat)
  case atStart => exact ⟨0, Nat.zero_le _, rfl, rfl, rfl⟩
  case round =>
    obtain ⟨k, hk, rfl, rfl, rfl⟩ := hrel
    by_cases hlt3 : k < ts.length
    · obtain ⟨bb, off, rfl, hc⟩ := (HY.out.below HB2.out) k hlt3
      have htk : Temp (ts[k]?.getD 0) := HT.out _ (by simp [hlt3])
      have hT := fun W => Temp_any (ts[k]?.getD 0) W
      rw [decide_eq_true htk] at hT
      have HTT := hid hT
      clear hT htk
      generalize ts[k]?.getD 0 = tk at *
      go_wp2_with (go_at_call 47; refine (HTT.out _).mono ?_; rintro e w3 ⟨rfl, rfl⟩)
      go_roundw
      case rel => exact ⟨k + 1, by omega, by go_num, trivial, rfl⟩
      case measure => simp [intOf]; omega
    · obtain rfl : k = ts.length := by omega
      obtain ⟨d0, d1, d2, d3, d4, d5⟩ := hL2.out
      go_wp2_with (go_at_call 51; refine (HPL.out _ (HX.out.below HB2.out)).mono ?_; rintro e w3 ⟨a3, c3, rfl, hi3, hb3⟩; have HI3 := hid hi3; have hL3 := hid (lnAt_call hL2.out hb3); have HB3 := hid (show Below w.heap.size w w3 from b_call hb3 (by have hq := HB2.out; (repeat (first | assumption | exact Below.refl _ _ | refine b_alloc ?_ _ | refine Below.drew ?_ | refine b_drewN ?_ _ | refine Below.setCell ?_ (by first | omega | (simp; done) | (simp; omega)) _ | refine b_call (by assumption) ?_)))); clear hb3; clear d0 d1 d2 d3 d4 d5; clear hi3)
      obtain ⟨l, hl⟩ : ∃ l : Ln, Ln.mk m n lp ld ls ln = l := ⟨_, rfl⟩
      have HL0 := hid hl
      have hLs := hL3.out
      rw [hl] at hLs
      have hOk : l.Ok := hl ▸ HH.out
      have HOK := hid hOk
      have HLS := hid hLs
      clear hl hLs hOk
      go_loopw [11, 12, 13] (fun v av i wr => ∃ (k : Nat) (a' : Option Addr) (c' : Nat), k ≤ ts.length ∧ i = .int .i64 k ∧ v = .slice a' L c' ∧ IntsAt wr a' ((pulsesTo l ws ts n k).map p01) ∧ av = .int .i64 (lostAt l ts k) ∧ LnAt w.heap.size l wr ∧ Below w.heap.size w wr) (fun _ _ i _ => ts.length - (intOf i).toNat)
      case atStart => exact ⟨0, a3, c3, Nat.zero_le _, rfl, rfl, by simpa [pulsesTo, firstLost_nil, roundsL] using HI3.out, by simp [lostAt, firstLost_nil], HLS.out, HB3.out⟩
      case round =>
        obtain ⟨k, a', c', hk, rfl, rfl, hi, rfl, hln, hbr⟩ := hrel
        have HI := hid hi
        have HLN := hid hln
        have HB := hid hbr
        clear hi hln hbr
        by_cases hlt4 : k < ts.length
        · obtain ⟨bb, off, rfl, hc⟩ := (HY.out.below HB.out) k hlt4
          obtain ⟨d0, d1, d2, d3, d4, d5⟩ := HLN.out
          have htk : Temp (ts[k]?.getD 0) := HT.out _ (by simp [hlt4])
          have hps := pulsesTo_step l ws ts n k hlt4
          have hla := lostAt_step l ts k hlt4
          obtain ⟨tk, hte⟩ : ∃ tk, ts[k]?.getD 0 = tk := ⟨_, rfl⟩
          rw [hte] at hc htk hps hla
          have hsb := rS_bd HOK.out htk
          have hsh := fun W => refshift_any l HOK.out tk htk W
          have hnl : (l.shift tk).isSome = !l.rL tk := by unfold Ln.rL; cases l.shift tk <;> rfl
          rw [hnl, show (l.shift tk).getD 0 = l.rS tk from rfl] at hsh
          have HSH := hid hsh
          have hlp : (pulsesTo l ws ts n k).length = L := by rw [pulsesTo_len, HWN.out]
          have hlate := fun W a' c' g => refLate_any a' c' ((pulsesTo l ws ts n k).map p01) (l.rS tk) (by rw [List.length_map]; omega) (by omega) W g
          rw [lateL_rot _ _ (by omega), List.length_map, hlp] at hlate
          rw [HWN.out] at hps
          have HLATE := hid hlate
          have HPS := hid hps
          have HLA := hid hla
          generalize l.rS tk = sh at *
          cases hrl : l.rL tk with
          | false =>
            rw [hrl] at HSH HPS HLA
            have hps := HPS.out
            have hla := HLA.out
            simp only [Bool.false_eq_true, if_false] at hps hla
            have hla2 : lostAt l ts (k + 1) = lostAt l ts k := by
              rw [hla]; unfold lostAt; split <;> simp
            have HPS2 := hid hps
            have HLA2 := hid hla2
            clear hps hla hla2 hrl
            go_wp2
            go_region_held3 (fun w' => w'.cell? ⟨w.heap.size, 0, none⟩ = some (.int .i64 l.W) ∧ w'.cell? ⟨w.heap.size, 1, none⟩ = some (.int .i64 l.B) ∧ w'.cell? ⟨w.heap.size, 2, none⟩ = some (.int .i64 l.P) ∧ w'.cell? ⟨w.heap.size, 3, none⟩ = some (.int .i64 l.D) ∧ w'.cell? ⟨w.heap.size, 4, none⟩ = some (.int .i64 l.S) ∧ w'.cell? ⟨w.heap.size, 5, none⟩ = some (.int .i64 l.N) ∧ w'.cell? ⟨bb, off + k, none⟩ = some (.int .i64 tk))
              (first | go_keep | (go_split_ands; refine ⟨?_, ?_, ?_, ?_, ?_, ?_, ?_⟩ <;> exact cell_later hb4 (by assumption)))
              (first | (go_at_call 59; refine (HSH.out _).mono ?_; rintro e w4 ⟨rfl, hb4⟩))
            have hb4' := b_call hb4 ((Below.refl wr.heap.size wr).drew)
            have HI4 := hid (HI.out.below hb4')
            have HLN4 := hid (lnAt_call HLN.out hb4')
            have HB4 := hid (b_call hb4' HB.out)
            clear hb4 hb4' d0 d1 d2 d3 d4 d5 hc
            go_wp2_with (go_at_call 50; refine (HLATE.out _ _ _ HI4.out).mono ?_; rintro e w5 ⟨g5, rfl, hr5, hb5⟩; have HI5 := hid (intsOfRow hr5); have HLN5 := hid (lnAt_call HLN4.out hb5); have HB5 := hid (show Below w.heap.size w w5 from b_call hb5 (by have hq := HB4.out; (repeat (first | assumption | exact Below.refl _ _ | refine b_alloc ?_ _ | refine Below.drew ?_ | refine b_drewN ?_ _ | refine Below.setCell ?_ (by first | omega | (simp; done) | (simp; omega)) _ | refine b_call (by assumption) ?_)))); clear hb5; clear hr5)
            go_roundw
            case rel => exact ⟨k + 1, some ⟨g5, 0, none⟩, L, by omega, by go_num, rfl, by rw [HPS2.out]; exact HI5.out, by rw [HLA2.out], HLN5.out, HB5.out⟩
            case measure => simp [intOf]; omega
          | true =>
            rw [hrl] at HSH HPS HLA
            have hps := HPS.out
            have hla := HLA.out
            simp only [if_true] at hps hla
            have HPS2 := hid hps
            have HLA2 := hid hla
            clear hps hla hrl
            have hzz : (madeCells (Value.int .i64 0).cells (L * 1)).toList = ((List.replicate L false).map p01).map (Value.int .i64) := by
              rw [Nat.mul_one, show (Value.int .i64 0).cells = #[Value.int .i64 0] from rfl, toList_madeCells_one, List.map_replicate, List.map_replicate]; rfl
            have HZZ := hid hzz
            clear hzz
            have hcs : (lostAt l ts k < 0 ∧ lostAt l ts (k + 1) = (k : Int)) ∨ (0 ≤ lostAt l ts k ∧ lostAt l ts (k + 1) = lostAt l ts k) := by
              have := HLA2.out
              by_cases g : lostAt l ts k < 0
              · rw [if_pos g] at this; exact .inl ⟨g, this⟩
              · rw [if_neg g] at this; exact .inr ⟨by omega, this⟩
            have HCS := hid hcs
            clear hcs
            go_wp2
            go_region_held3 (fun w' => w'.cell? ⟨w.heap.size, 0, none⟩ = some (.int .i64 l.W) ∧ w'.cell? ⟨w.heap.size, 1, none⟩ = some (.int .i64 l.B) ∧ w'.cell? ⟨w.heap.size, 2, none⟩ = some (.int .i64 l.P) ∧ w'.cell? ⟨w.heap.size, 3, none⟩ = some (.int .i64 l.D) ∧ w'.cell? ⟨w.heap.size, 4, none⟩ = some (.int .i64 l.S) ∧ w'.cell? ⟨w.heap.size, 5, none⟩ = some (.int .i64 l.N) ∧ w'.cell? ⟨bb, off + k, none⟩ = some (.int .i64 tk))
              (first | go_keep | (go_split_ands; refine ⟨?_, ?_, ?_, ?_, ?_, ?_, ?_⟩ <;> exact cell_later hb4 (by assumption)))
              (first | (go_at_call 59; refine (HSH.out _).mono ?_; rintro e w4 ⟨rfl, hb4⟩))
            have hb4' := b_call hb4 ((Below.refl wr.heap.size wr).drew)
            have HI4 := hid (HI.out.below hb4')
            have HLN4 := hid (lnAt_call HLN.out hb4')
            have HB4 := hid (b_call hb4' HB.out)
            clear hb4 hb4' d0 d1 d2 d3 d4 d5 hc
            rcases HCS.out with ⟨q1, q2⟩ | ⟨q1, q2⟩
            all_goals
              have Q2 := hid q2
              clear q2
              go_wp2_with (first
                | (go_at_call 50; refine (HLATE.out _ _ _ HI4.out).mono ?_; rintro e w5 ⟨g5, rfl, hr5, hb5⟩; have HI5 := hid (intsOfRow hr5); have HLN5 := hid (lnAt_call HLN4.out hb5); have HB5 := hid (show Below w.heap.size w w5 from b_call hb5 (by have hq := HB4.out; (repeat (first | assumption | exact Below.refl _ _ | refine b_alloc ?_ _ | refine Below.drew ?_ | refine b_drewN ?_ _ | refine Below.setCell ?_ (by first | omega | (simp; done) | (simp; omega)) _ | refine b_call (by assumption) ?_)))); clear hb5; clear hr5)
                | (refine wpList_make_full _ rfl _ _ 35 rfl w.heap.size 3 iI (.int .i64 0) 1 Try.underlying35 hiI hzI0 hzI1 .i64 .i64 (L : Int) (L : Int) L rfl rfl rfl rfl (by rw [hzI2]; omega) (by unfold maxLen; omega) HB5.out.size ?_; intro w6 hown hgrow; rw [HZZ.out] at hown; have HI6 := hid (intsOfRow hown); have HLN6 := hid (lnAt_call HLN5.out (below_of_grown hgrow)); have HB6 := hid (b_call (below_of_grown hgrow) HB5.out); clear hown hgrow))
              go_roundw
              case rel => exact ⟨k + 1, some ⟨w5.heap.size, 0, none⟩, L, by omega, by go_num, rfl, by rw [HPS2.out]; exact HI6.out, by rw [Q2.out], HLN6.out, HB6.out⟩
              case measure => simp [intOf]; omega
        · obtain rfl : k = ts.length := by omega
          obtain ⟨d0, d1, d2, d3, d4, d5⟩ := HLN.out
          have hlp : (pulsesTo l ws ts n ts.length).length = L := by rw [pulsesTo_len, HWN.out]
          have hJ := fun W a' c' g => refJoined_any a' c' (pulsesTo l ws ts n ts.length) n m (by omega) (by omega) (by rw [hlp, HLL.out]) W g
          rw [hlp] at hJ
          have hlB : l.B = (n : Int) := by rw [← HL0.out]
          rw [hlB] at d1
          have HJ := hid hJ
          clear hJ hlB
          go_wp2_with (go_at_call 49; refine (HJ.out _ _ _ HI.out).mono ?_; rintro e w7 ⟨g7, rfl, hr7, hb7⟩; have HI7 := hid (intsOfRow hr7); have HB7 := hid (b_call hb7 HB.out); clear hb7 hr7)
          go_ret3
          rw [HL0.out]
          have hjl : (joined (pulsesTo l ws ts n ts.length) n m).length = m := by simp [joined]
          exact ⟨some ⟨g7, 0, none⟩, m, by rw [hjl]; rfl, HI7.out, HB7.out⟩

/-- What the reference's Pass returns, of any line, words and temperatures: what Pass returns. -/
theorem refPass_law (l : Ln) (a b : Option Addr) (ca cb : Nat) (ws ts : List Int) (hle : Len ts.length) (w : World) (hx : IntsAt w a ws) (hy : IntsAt w b ts) :
    Calls Try.prog 30 #[l.val, .slice a ws.length ca, .slice b ts.length cb] w (RetL w (passXs l ws ts) (passAt l ws ts) (passErr l ws ts)) := by
  unfold passXs passAt
  by_cases h0 : passErr l ws ts = 0
  · rw [if_pos h0, if_pos h0, h0]
    obtain ⟨h, hwl, hok, hlt, ht⟩ := passErr_zero h0
    obtain ⟨lw, lb, lp, ld, ls, ln⟩ := l
    obtain ⟨h1, h2, _⟩ := id h
    simp only at h1 h2 hwl hok
    obtain ⟨m, rfl⟩ : ∃ m : Nat, lw = (m : Int) := ⟨lw.toNat, by omega⟩
    obtain ⟨n, rfl⟩ : ∃ n : Nat, lb = (n : Int) := ⟨lb.toNat, by omega⟩
    have hg := refPass_good m n lp ld ls ln h a b ca cb ws ts (by omega) hok hlt ht w hx hy
    have e : (passOut ⟨m, n, lp, ld, ls, ln⟩ ws ts) = (joined (pulsesTo ⟨m, n, lp, ld, ls, ln⟩ ws ts n ts.length) n m, lostAt ⟨m, n, lp, ld, ls, ln⟩ ts ts.length) := by
      unfold passOut pulsesTo lostAt
      rw [List.take_of_length_le (Nat.le_refl _)]
      cases firstLost ⟨m, n, lp, ld, ls, ln⟩ ts with
      | none => simp
      | some j => simp only [Option.isSome_some, if_true, Int.toNat_natCast]; rw [show ws.length = m by omega, joined_zeros]
    rw [e]
    exact hg
  · rw [if_neg h0, if_neg h0]
    have conv : Calls Try.prog 30 #[l.val, .slice a ws.length ca, .slice b ts.length cb] w (Ret w (.tuple #[.slice none 0 0, .int .i64 0, .int .i64 (passErr l ws ts)])) := by
      unfold passErr at h0 ⊢
      by_cases h : l.Ok
      · rw [if_pos h] at h0 ⊢
        by_cases hw : wordsErr l ws = 0
        · rw [if_pos hw] at h0 ⊢
          by_cases hlt : ts.length ≤ 60
          · rw [if_pos hlt] at h0 ⊢
            unfold tErr at h0 ⊢
            by_cases ht : tempsOk ts
            · rw [if_pos ht] at h0; exact absurd rfl h0
            · rw [if_neg ht]; exact refPass_temp l h a b ca cb ws ts hlt hw ht w hx hy
          · rw [if_neg hlt]; exact refPass_early l a b ca cb ws ts hle 3 w hx (.inr (.inr ⟨h, hw, by omega, rfl⟩))
        · rw [if_neg hw]; exact refPass_early l a b ca cb ws ts hle _ w hx (.inr (.inl ⟨h, rfl, hw⟩))
      · rw [if_neg h]; exact refPass_early l a b ca cb ws ts hle 7 w hx (.inl ⟨h, rfl⟩)
    refine conv.mono ?_
    rintro e w' ⟨rfl, hb⟩
    exact ⟨none, 0, rfl, fun j hj => by simp at hj, hb⟩

set_option maxRecDepth 100000 in
set_option maxHeartbeats 2000000 in
theorem passes_row (hA : ∀ W, Calls Try.prog 22 #[] W (Ret W (.bool true))) (w : World) (l : Ln) (a : Option Addr) (ca : Nat) (ws : List Int) (hlw : Len ws.length) (hx : IntsAt w a ws) (b : Option Addr) (cb : Nat) (ts : List Int) (hlt : Len ts.length) (hy : IntsAt w b ts) :
    Calls Try.prog 5 #[l.val, .slice a ws.length ca, .slice b ts.length cb] w fun e w' => e = .returned (.bool true) ∧ Below w.heap.size w w' := by
  have HA := hid hA
  have h1 := fun W gx gy => Pass_law l a b ca cb ws ts hlt W gx gy
  have h2 := fun W gx gy => refPass_law l a b ca cb ws ts hlt W gx gy
  have hxl : Len (passXs l ws ts).length := by
    unfold passXs
    split
    · rename_i h0
      obtain ⟨h, _⟩ := passErr_zero h0
      have := h.1
      unfold passOut
      split <;> simp [joined] <;> omega
    · simp
  generalize passXs l ws ts = xs at *
  generalize passAt l ws ts = at1 at *
  generalize passErr l ws ts = pe at *
  have H1 := hid h1
  have H2 := hid h2
  have HX := hid hx
  have HY := hid hy
  have hL0 := hid (lnAt_new' l w)
  clear h1 h2 hx hy hA
  have HINT := hid (show ∀ W c cc c2 cc2, IntsAt W c xs → IntsAt W c2 xs → Calls Try.prog 31 #[.slice c xs.length cc, .slice c2 xs.length cc2] W (Ret W (.bool true)) from fun W c cc c2 cc2 g1 g2 => by
    have := Ints_any c c2 cc cc2 xs xs hxl hxl W g1 g2
    simpa using this)
  go_enter Try.func5, Try.ntmps5
  go_wp2_with (first
    | (go_at_call 29; refine (H1.out _ (HX.out.below (by (repeat (first | assumption | exact Below.refl _ _ | refine b_alloc ?_ _ | refine Below.drew ?_ | refine b_drewN ?_ _ | refine Below.setCell ?_ (by first | omega | (simp; done) | (simp; omega)) _ | refine b_call (by assumption) ?_)))) (HY.out.below (by (repeat (first | assumption | exact Below.refl _ _ | refine b_alloc ?_ _ | refine Below.drew ?_ | refine b_drewN ?_ _ | refine Below.setCell ?_ (by first | omega | (simp; done) | (simp; omega)) _ | refine b_call (by assumption) ?_))))).mono ?_; rintro e w1 ⟨a1, c1, rfl, hi, hb1⟩; have HB1 := hid (show Below w.heap.size w w1 by (repeat (first | assumption | exact Below.refl _ _ | refine b_alloc ?_ _ | refine Below.drew ?_ | refine b_drewN ?_ _ | refine Below.setCell ?_ (by first | omega | (simp; done) | (simp; omega)) _ | refine b_call (by assumption) ?_))); have HI1 := hid hi; have hL1 := hid (lnAt_call hL0.out hb1); obtain ⟨d0, d1, d2, d3, d4, d5⟩ := hL1.out; clear hb1 hi)
    | (go_at_call 30; refine (H2.out _ (HX.out.below HB1.out) (HY.out.below HB1.out)).mono ?_; rintro e w2 ⟨a2, c2, rfl, hi, hb2⟩; have HI2 := hid hi; have HJ2 := hid (HI1.out.below hb2); have HB2 := hid (show Below w.heap.size w w2 from b_call hb2 (by have hq := HB1.out; (repeat (first | assumption | exact Below.refl _ _ | refine b_alloc ?_ _ | refine Below.drew ?_ | refine b_drewN ?_ _ | refine Below.setCell ?_ (by first | omega | (simp; done) | (simp; omega)) _ | refine b_call (by assumption) ?_)))); clear hb2; clear d0 d1 d2 d3 d4 d5; clear hi)
    | (go_at_call 31; refine (HINT.out _ _ _ _ _ HJ2.out HI2.out).mono ?_; rintro e w3 ⟨rfl, hb3⟩; have HB3 := hid (show Below w.heap.size w w3 from b_call hb3 (by have hq := HB2.out; (repeat (first | assumption | exact Below.refl _ _ | refine b_alloc ?_ _ | refine Below.drew ?_ | refine b_drewN ?_ _ | refine Below.setCell ?_ (by first | omega | (simp; done) | (simp; omega)) _ | refine b_call (by assumption) ?_)))); clear hb3)
    | (go_at_call 22; refine (HA.out _).mono ?_; rintro e w4 ⟨rfl, hb4⟩; have HB4 := hid (show Below w.heap.size w w4 from b_call hb4 (by have hq := HB3.out; (repeat (first | assumption | exact Below.refl _ _ | refine b_alloc ?_ _ | refine Below.drew ?_ | refine b_drewN ?_ _ | refine Below.setCell ?_ (by first | omega | (simp; done) | (simp; omega)) _ | refine b_call (by assumption) ?_)))); clear hb4))
  go_ret
  exact ⟨rfl, HB4.out⟩
end Go.Proofs.Ytlocdkjnefmiaaa
namespace Go.Proofs.Ytlocdkjnefmiaaa
open Go.RowKit
set_option linter.unusedVariables false
set_option linter.unusedSimpArgs false

/-- How many pulses. -/
def cnt (bs : List Bool) : Int := (bs.map p01).sum
theorem cnt_app (a b : List Bool) : cnt (a ++ b) = cnt a + cnt b := by simp [cnt, List.sum_append]
theorem cnt_zeros (n : Nat) : cnt (List.replicate n false) = 0 := by
  induction n with
  | zero => rfl
  | succ n ih => rw [List.replicate_succ, ← List.singleton_append, cnt_app, ih]; rfl
theorem cnt_bd (bs : List Bool) : 0 ≤ cnt bs ∧ cnt bs ≤ bs.length := by
  induction bs with
  | nil => simp [cnt]
  | cons b bs ih =>
    have e : cnt (b :: bs) = p01 b + cnt bs := by simp [cnt]
    rw [e, List.length_cons]
    unfold p01
    split <;> omega
theorem cnt_rot (bs : List Bool) (p : Nat) : cnt (rot bs p) = cnt bs := by
  unfold rot
  rw [cnt_app]
  have := cnt_app (bs.take (bs.length - p)) (bs.drop (bs.length - p))
  rw [List.take_append_drop] at this
  omega
theorem cnt_rounds (l : Ln) (ts : List Int) (ps : List Bool) (pre : List Nat) : cnt (roundsL l ts ps pre) = cnt ps := by
  unfold roundsL
  have : ∀ (pre : List Nat) (q : List Bool), cnt (pre.foldl (fun q x => rot q (l.rS (ts[x]?.getD 0) % (ps.length : Int)).toNat) q) = cnt q := by
    intro pre
    induction pre with
    | nil => intro q; rfl
    | cons x pre ih => intro q; rw [List.foldl_cons, ih, cnt_rot]
  exact this pre ps
theorem bits_val : ∀ (bs : List Bool), bitsOf (val bs) bs.length = bs := by
  intro bs
  induction bs with
  | nil => rfl
  | cons b bs ih =>
    have hb := val_bd bs
    have e : val (b :: bs) = p01 b + 2 * val bs := rfl
    have hp : 0 ≤ p01 b ∧ p01 b ≤ 1 := by unfold p01; split <;> omega
    unfold bitsOf
    rw [List.length_cons, List.range_succ_eq_map, List.map_cons, List.map_map]
    congr 1
    · rw [e]; unfold bitOf
      simp only [Int.pow_zero, Int.ediv_one]
      have : (p01 b + 2 * val bs) % 2 = p01 b := by omega
      rw [this]; unfold p01; cases b <;> rfl
    · refine Eq.trans ?_ ih
      unfold bitsOf
      apply List.map_congr_left
      intro k _
      show bitOf (val (b :: bs)) (k + 1) = bitOf (val bs) k
      unfold bitOf
      rw [Int.pow_succ, Int.mul_comm, ← Int.ediv_ediv_of_nonneg (by omega), e]
      have : (p01 b + 2 * val bs) / 2 = val bs := by omega
      rw [this]
theorem pulses_joined (n : Nat) (hn : 1 ≤ n) : ∀ (m : Nat) (bs : List Bool), bs.length = m * n → pulsesFrom (joined bs n m) n = bs
  | 0, bs, h => by
    have : bs = [] := List.length_eq_zero_iff.1 (by omega)
    subst this; rfl
  | m + 1, bs, h => by
    have e : joined bs n (m + 1) = val (bs.take n) :: joined (bs.drop n) n m := by
      unfold joined
      rw [List.range_succ_eq_map, List.map_cons, List.map_map]
      congr 1
      · unfold wordAt; rw [List.take_length, Nat.zero_mul, List.drop_zero]
      · apply List.map_congr_left
        intro i _
        show wordAt bs n bs.length (i + 1) = wordAt (bs.drop n) n (bs.drop n).length i
        unfold wordAt
        rw [List.take_length, List.take_length, List.drop_drop]
        congr 3
        rw [Nat.succ_mul]; omega
    have hl : (bs.take n).length = n := by simp; rw [Nat.succ_mul] at h; omega
    have hb := bits_val (bs.take n)
    rw [hl] at hb
    rw [e, pulses_cons, hb, pulses_joined n hn m (bs.drop n) (by simp; rw [Nat.succ_mul] at h; omega), List.take_append_drop]
theorem joined_ok (bs : List Bool) (n m : Nat) : ∀ x ∈ joined bs n m, 0 ≤ x ∧ x < 2 ^ n := by
  intro x hx
  unfold joined at hx
  obtain ⟨i, _, rfl⟩ := List.mem_map.1 hx
  unfold wordAt
  have h := val_bd (((bs.take bs.length).drop (i * n)).take n)
  refine ⟨h.1, Int.lt_of_lt_of_le h.2 ?_⟩
  have hl : (((bs.take bs.length).drop (i * n)).take n).length ≤ n := by simp; omega
  have := Nat.pow_le_pow_right (show 0 < 2 by omega) hl
  have c : ∀ k : Nat, ((2 ^ k : Nat) : Int) = (2 : Int) ^ k := fun k => by simp
  rw [← c, ← c]; omega
theorem bits_low {x : Int} {j n : Nat} (h : x / 2 ^ j = 0) (hjn : j ≤ n) : cnt (bitsOf x n) = cnt (bitsOf x j) := by
  have : ∀ d, cnt (bitsOf x (j + d)) = cnt (bitsOf x j) := by
    intro d
    induction d with
    | zero => rfl
    | succ d ih =>
      rw [← Nat.add_assoc, bitsOf_succ, cnt_app, ih]
      have hz : x / 2 ^ (j + d) = 0 := by rw [Int.pow_add, ← Int.ediv_ediv_of_nonneg (Int.le_of_lt (Int.pow_pos (by omega))), h, Int.zero_ediv]
      have : cnt [bitOf x (j + d)] = 0 := by simp [cnt, p01_bit, hz]
      omega
  rw [← this (n - j)]
  congr 2; omega

set_option maxRecDepth 100000 in
set_option maxHeartbeats 2000000 in
theorem ones_any (a : Option Addr) (cap : Nat) (ws : List Int) (n : Nat) (hlen : ws.length ≤ 64) (hn1 : n ≤ 40) (hok : ∀ x ∈ ws, 0 ≤ x ∧ x < 2 ^ n) (w : World) (hx : IntsAt w a ws) :
    Calls Try.prog 48 #[.slice a ws.length cap] w fun e w' => e = .returned (.int .i64 (cnt (pulsesFrom ws n))) ∧ w = w' := by
  have HX0 := hid hx
  have HOK := hid hok
  clear hx hok
  have hp2 : (2 : Int) ^ n ≤ 1099511627776 := (pow_bd hn1).2
  go_enter Try.func48, Try.ntmps48
  go_wp2
  go_loop [3, 4] (fun c i => ∃ k : Nat, k ≤ ws.length ∧ i = .int .i64 k ∧ c = .int .i64 (cnt (pulsesFrom (ws.take k) n))) (fun _ i => ws.length - (intOf i).toNat)
  case atStart => exact ⟨0, Nat.zero_le _, rfl, by simp [pulsesFrom, cnt]⟩
  case round =>
    obtain ⟨k, hk, rfl, rfl⟩ := hrel
    have hcb := cnt_bd (pulsesFrom (ws.take k) n)
    have hcl : (pulsesFrom (ws.take k) n).length ≤ 64 * 40 := by
      rw [pulsesFrom_len]
      have : (ws.take k).length ≤ 64 := by simp; omega
      exact Nat.mul_le_mul this hn1
    by_cases hlt : k < ws.length
    · obtain ⟨b, off, rfl, hc⟩ := HX0.out k hlt
      obtain ⟨x, hxk⟩ : ∃ x, ws[k]?.getD 0 = x := ⟨_, rfl⟩
      have hx0 := HOK.out x (by rw [← hxk]; simp [hlt])
      rw [hxk] at hc
      have hxk' : ws[k] = x := by simpa [hlt] using hxk
      have HXK := hid hxk'
      clear hxk hxk'
      obtain ⟨C, hC⟩ : ∃ C, cnt (pulsesFrom (ws.take k) n) = C := ⟨_, rfl⟩
      rw [hC] at hcb
      have HCC := hid hC
      clear hC
      go_wp2
      go_loop [3, 5] (fun c r => ∃ j : Nat, j ≤ n ∧ r = .int .i64 (x / 2 ^ j) ∧ c = .int .i64 (C + cnt (bitsOf x j))) (fun _ r => (intOf r).toNat)
      case atStart => exact ⟨0, Nat.zero_le _, by simp, by rw [HCC.out]; simp [bitsOf, cnt]⟩
      case round =>
        obtain ⟨j, hj, rfl, rfl⟩ := hrel
        have hq0 : 0 ≤ x / 2 ^ j ∧ x / 2 ^ j ≤ 1099511627776 := ⟨Int.ediv_nonneg hx0.1 (Int.le_of_lt (Int.pow_pos (by omega))), Int.le_trans (Int.ediv_le_self _ hx0.1) (by omega)⟩
        have hbl := cnt_bd (bitsOf x j)
        rw [bitsOf_len] at hbl
        by_cases hpos : 0 < x / 2 ^ j
        · have hjn : j < n := by
            by_cases g : j < n
            · exact g
            · obtain rfl : j = n := by omega
              rw [Int.ediv_eq_zero_of_lt hx0.1 hx0.2] at hpos
              omega
          have hp := p01_bit x j
          have hh := half_pow x j
          have hcn : cnt (bitsOf x (j + 1)) = cnt (bitsOf x j) + p01 (bitOf x j) := by rw [bitsOf_succ, cnt_app]; simp [cnt]
          rw [hp] at hcn
          have HH := hid hh
          have HCN := hid hcn
          clear hp hh hcn
          generalize x / 2 ^ j = r at *
          generalize cnt (bitsOf x j) = c at *
          go_wp2
          go_round
          case rel => exact ⟨j + 1, by omega, by rw [← HH.out], by rw [HCN.out]; go_num⟩
          case measure => simp [intOf]; omega
        · have hz : x / 2 ^ j = 0 := by omega
          have hlow := bits_low hz hj
          have HLOW := hid hlow
          rw [hz]
          rw [hz] at hpos
          clear hz hlow hq0
          generalize cnt (bitsOf x j) = c at *
          go_wp2
          go_round
          case rel =>
            refine ⟨k + 1, by omega, by go_num, ?_⟩
            rw [take_snoc hlt, pulsesFrom_snoc, cnt_app, HXK.out, HCC.out, HLOW.out]
          case measure => simp [intOf]; omega
    · obtain rfl : k = ws.length := by omega
      rw [List.take_of_length_le (Nat.le_refl _)]
      clear hcb hcl
      go_wp2
      go_ret
      exact ⟨rfl, rfl⟩
end Go.Proofs.Ytlocdkjnefmiaaa
namespace Go.Proofs.Ytlocdkjnefmiaaa
open Go.RowKit
set_option linter.unusedVariables false
set_option linter.unusedSimpArgs false

/-- The sum of the shifts at the first k temperatures. -/
def sumT (l : Ln) (ts : List Int) (k : Nat) : Int := ((ts.take k).map l.rS).sum
theorem sumT_succ (l : Ln) (ts : List Int) (k : Nat) (hk : k < ts.length) : sumT l ts (k + 1) = sumT l ts k + l.rS (ts[k]?.getD 0) := by
  unfold sumT
  rw [List.take_succ_eq_append_getElem hk, List.map_append, List.sum_append]
  simp [hk]
theorem sumT_bd {l : Ln} (h : l.Ok) {ts : List Int} (ht : tempsOk ts) : ∀ k, k ≤ ts.length → -(2000000000 * (k : Int)) ≤ sumT l ts k ∧ sumT l ts k ≤ 2000000000 * (k : Int)
  | 0, _ => by simp [sumT]
  | k + 1, hk => by
    have ih := sumT_bd h ht k (by omega)
    rw [sumT_succ l ts k (by omega)]
    have := rS_bd h (ht (ts[k]?.getD 0) (by simp [show k < ts.length by omega]))
    rw [Int.natCast_succ]
    omega
theorem sumS_all (l : Ln) (ts : List Int) : sumS l ts (List.range ts.length) = (ts.map l.rS).sum := by
  unfold sumS
  congr 1
  apply List.ext_getElem
  · simp
  · intro i h1 h2
    have : i < ts.length := by simpa using h1
    simp [this]
theorem sumT_all (l : Ln) (ts : List Int) : sumT l ts ts.length = (ts.map l.rS).sum := by
  unfold sumT; rw [List.take_of_length_le (Nat.le_refl _)]
theorem sum_rev : ∀ (xs : List Int), xs.reverse.sum = xs.sum
  | [] => rfl
  | x :: xs => by rw [List.reverse_cons, List.sum_append, sum_rev xs]; simp; omega
theorem rounds_rev (l : Ln) (ts : List Int) (ps : List Bool) (hL : 1 ≤ ps.length) : roundsL l ts.reverse ps (List.range ts.reverse.length) = roundsL l ts ps (List.range ts.length) := by
  have e : sumS l ts.reverse (List.range ts.reverse.length) = sumS l ts (List.range ts.length) := by
    rw [sumS_all, sumS_all, List.map_reverse, sum_rev]
  apply List.ext_getElem?
  intro i
  by_cases hi : i < ps.length
  · rw [rounds_get l _ ps hL _ i hi, rounds_get l _ ps hL _ i hi, e]
  · rw [List.getElem?_eq_none (by rw [roundsL_len]; omega), List.getElem?_eq_none (by rw [roundsL_len]; omega)]
theorem rounds_rot (l : Ln) (ts : List Int) (ps : List Bool) (hL : 1 ≤ ps.length) : roundsL l ts ps (List.range ts.length) = rot ps (sumT l ts ts.length % (ps.length : Int)).toNat := by
  have h0 := Int.emod_nonneg (sumT l ts ts.length) (show (ps.length : Int) ≠ 0 by omega)
  have h1 := Int.emod_lt_of_pos (sumT l ts ts.length) (show (0 : Int) < ps.length by omega)
  apply List.ext_getElem?
  intro i
  by_cases hi : i < ps.length
  · rw [rounds_get l _ ps hL _ i hi, rot_get _ _ _ (by omega) hi, from_mod _ hL i hi, sumS_all, sumT_all]
  · rw [List.getElem?_eq_none (by rw [roundsL_len]; omega), List.getElem?_eq_none (by rw [rot_len]; omega)]
theorem get_rev (ts : List Int) (j : Nat) (hj : j < ts.length) : ts.reverse[j]?.getD 0 = ts[ts.length - 1 - j]?.getD 0 := by
  rw [List.getElem?_reverse hj]
theorem lost_rev (l : Ln) (ts : List Int) : (firstLost l ts.reverse = none) ↔ firstLost l ts = none := by
  have go : ∀ ts : List Int, firstLost l ts = none → firstLost l ts.reverse = none := by
    intro ts h
    have g := firstLost_none h
    unfold firstLost
    rw [List.find?_eq_none]
    intro j hj
    have hj' : j < ts.length := by simpa using hj
    rw [get_rev ts j hj', g _ (by omega)]
    simp
  exact ⟨fun h => by have := go _ h; rwa [List.reverse_reverse] at this, go ts⟩
theorem passErr_ok {l : Ln} {ws ts : List Int} (h : l.Ok) (h1 : (ws.length : Int) = l.W) (h2 : wordsOk l.B ws) (h3 : ts.length ≤ 60) (h4 : tempsOk ts) : passErr l ws ts = 0 := by
  unfold passErr wordsErr wErr tErr
  rw [if_pos h, if_pos h1, if_pos h2, if_pos rfl, if_pos h3, if_pos h4]
theorem tempsOk_rev {ts : List Int} (h : tempsOk ts) : tempsOk ts.reverse := fun t ht => h t (by simpa using ht)
theorem passOut_rev (l : Ln) (ws ts : List Int) (n : Nat) (hn : l.B.toNat = n) (hL : 1 ≤ ws.length * n) : (passOut l ws ts.reverse).1 = (passOut l ws ts).1 := by
  unfold passOut
  have h := lost_rev l ts
  cases hf : firstLost l ts with
  | none => rw [h.2 hf]; simp only; rw [rounds_rev l ts _ (by rw [pulsesFrom_len, hn]; exact hL)]
  | some k =>
    cases hg : firstLost l ts.reverse with
    | none => rw [h.1 hg] at hf; cases hf
    | some j => rfl
end Go.Proofs.Ytlocdkjnefmiaaa
