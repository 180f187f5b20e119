/-
  Contracts of the reference's Late and Joined: pulses that come later; words of pulses.
-/
import Derived.StillTailTactics
import Derived.Test.YtggkhddficmnfaaRefPulses
namespace Go.Proofs.Ytggkhddficmnfaa
open Go.RowKit
set_option linter.unusedVariables false
set_option linter.unusedSimpArgs false

/-- Where the pulse of beat i comes from. -/
def lateIx (n : Nat) (d : Int) (i : Nat) : Nat := (((i : Int) - d) % (n : Int)).toNat
theorem lateIx_lt {n : Nat} (hn : 1 ≤ n) (d : Int) (i : Nat) : lateIx n d i < n := by
  unfold lateIx
  have h0 := Int.emod_nonneg ((i : Int) - d) (show (n : Int) ≠ 0 by omega)
  have h1 := Int.emod_lt_of_pos ((i : Int) - d) (show (0 : Int) < n by omega)
  omega
theorem lateIx_iff {n : Nat} (hn : 1 ≤ n) (d : Int) {i k : Nat} (hi : i < n) (hk : k < n) : lateIx n d i = k ↔ ((k : Int) + d) % (n : Int) = (i : Int) := by
  have h0 := Int.emod_nonneg ((i : Int) - d) (show (n : Int) ≠ 0 by omega)
  constructor
  · intro e
    have e2 : (k : Int) = ((i : Int) - d) % (n : Int) := by unfold lateIx at e; omega
    rw [e2, Int.emod_add_emod, Int.sub_add_cancel, Int.emod_eq_of_lt (by omega) (by omega)]
  · intro e
    have : ((i : Int) - d) % (n : Int) = (k : Int) := by
      rw [← e, Int.emod_sub_emod, Int.add_sub_cancel, Int.emod_eq_of_lt (by omega) (by omega)]
    unfold lateIx; omega
def lateL (ps : List Int) (d : Int) : List Int := (List.range ps.length).map fun i => ps[lateIx ps.length d i]?.getD 0
def lateTo (ps : List Int) (d : Int) (k : Nat) : List Int := (List.range ps.length).map fun i => if lateIx ps.length d i < k then ps[lateIx ps.length d i]?.getD 0 else 0
theorem lateTo_zero (ps : List Int) (d : Int) : lateTo ps d 0 = List.replicate ps.length 0 := by
  apply List.ext_getElem
  · simp [lateTo]
  · intro i h1 h2; simp [lateTo]
theorem lateTo_all (ps : List Int) (d : Int) : lateTo ps d ps.length = lateL ps d := by
  apply List.map_congr_left
  intro i hi
  have : i < ps.length := by simpa using hi
  rw [if_pos (lateIx_lt (by omega) d i)]
theorem lateTo_succ {ps : List Int} {d : Int} {k i : Nat} (hk : k < ps.length) (hi : i < ps.length) (h : ((k : Int) + d) % (ps.length : Int) = (i : Int)) : lateTo ps d (k + 1) = (lateTo ps d k).set i (ps[k]?.getD 0) := by
  apply List.ext_getElem
  · simp [lateTo]
  · intro j h1 h2
    have hj : j < ps.length := by simpa [lateTo] using h1
    rw [List.getElem_set]
    have hiff := lateIx_iff (show 1 ≤ ps.length by omega) d hj hk
    split
    · rename_i e
      subst e
      have e2 := hiff.2 h
      simp only [lateTo, List.getElem_map, List.getElem_range, e2]
      rw [if_pos (by omega)]
    · rename_i e
      simp only [lateTo, List.getElem_map, List.getElem_range]
      have hne : lateIx ps.length d j ≠ k := by
        intro x
        have := hiff.1 x
        omega
      by_cases hlt : lateIx ps.length d j < k
      · rw [if_pos hlt, if_pos (by omega)]
      · rw [if_neg hlt, if_neg (by omega)]

set_option maxRecDepth 100000 in
set_option maxHeartbeats 2000000 in
theorem refLate_any (a : Option Addr) (cap : Nat) (ps : List Int) (d : Int) (hlen : ps.length ≤ 100000) (hd : -1000000000000 ≤ d ∧ d ≤ 1000000000000) (w : World) (hx : IntsAt w a ps) :
    Calls Try.prog 50 #[.slice a ps.length cap, .int .i64 d] w fun e w' => ∃ g, e = .returned (.slice (some ⟨g, 0, none⟩) ps.length ps.length) ∧ w'.ownsRow w.heap.size 3 1 (.slice (some ⟨g, 0, none⟩) ps.length ps.length) ps.length ((lateL ps d).map (Value.int .i64)) ∧ Below w.heap.size w w' := by
  obtain ⟨iI, hiI, hzI0, hzI1, hzI2⟩ := info_parts infoI
  have HX0 := hid hx
  clear hx
  go_enter Try.func50, Try.ntmps50
  go_wp2_with (refine wpList_make_full _ rfl _ _ 35 rfl w.heap.size 3 iI (.int .i64 0) 1 Try.underlying35 hiI hzI0 hzI1 .i64 .i64 (ps.length : Int) (ps.length : Int) ps.length rfl rfl rfl rfl (by rw [hzI2]; omega) (by unfold maxLen; omega) (Nat.le_refl _) ?_; intro w2 hown hgrow)
  have hz : (madeCells (Value.int .i64 0).cells (ps.length * 1)).toList = (lateTo ps d 0).map (Value.int .i64) := by
    rw [Nat.mul_one, show (Value.int .i64 0).cells = #[Value.int .i64 0] from rfl, toList_madeCells_one, lateTo_zero, List.map_replicate]
  rw [hz] at hown
  have hBel : Below w.heap.size w w2 := below_of_grown hgrow
  clear hz hgrow
  go_loopw [7] (fun i wr => ∃ k : Nat, k ≤ ps.length ∧ i = .int .i64 k ∧ wr.ownsRow w.heap.size 3 1 (.slice (some ⟨w.heap.size, 0, none⟩) ps.length ps.length) ps.length ((lateTo ps d k).map (Value.int .i64)) ∧ Below w.heap.size w wr) (fun i _ => ps.length - (intOf i).toNat)
  case atStart => exact ⟨0, Nat.zero_le _, rfl, hown, hBel⟩
  case round =>
    obtain ⟨k, hk, rfl, hrow, hbr⟩ := hrel
    clear hown hBel
    have HROW := hid hrow
    clear hrow
    by_cases hlt : k < ps.length
    · obtain ⟨b, off, rfl, hc⟩ := (HX0.out.below hbr) k hlt
      obtain ⟨n, hn⟩ : ∃ n, ps.length = n := ⟨_, rfl⟩
      obtain ⟨x, hxk⟩ : ∃ x, ps[k]?.getD 0 = x := ⟨_, rfl⟩
      have hn1 : 1 ≤ n := by omega
      have hkn : k < n := by omega
      rw [hxk] at hc
      obtain ⟨q, hq⟩ : ∃ q, ((k : Int) + d).tmod (n : Int) = q := ⟨_, rfl⟩
      have qb := tmod_bd ((k : Int) + d) (n : Int) (by omega)
      rw [hq] at qb
      have h0 := Int.emod_nonneg ((k : Int) + d) (show (n : Int) ≠ 0 by omega)
      have h1 := Int.emod_lt_of_pos ((k : Int) + d) (show (0 : Int) < n by omega)
      obtain ⟨i, hi⟩ : ∃ i : Nat, ((k : Int) + d) % (n : Int) = (i : Int) := ⟨(((k : Int) + d) % (n : Int)).toNat, by omega⟩
      have hq2 : (q + (n : Int)).tmod (n : Int) = (i : Int) := by rw [← hq, tmod_fix _ _ (by omega), hi]
      have hin : i < n := by omega
      have hlen2 : (lateTo ps d k).length = n := by simp [lateTo, hn]
      have hcell := HROW.out.cellAt i (by omega)
      have hcell' : wr.cell? ⟨w.heap.size, i, none⟩ = some (.int .i64 ((lateTo ps d k)[i]?.getD 0)) := hcell.trans (by simp [hlen2, hin])
      have hfr := HROW.out.frozenAt i
      have hsu := lateTo_succ (ps := ps) (d := d) (i := i) hlt (by omega) (by rw [hn]; exact hi)
      rw [hxk] at hsu
      have HSU := hid hsu
      have HNN := hid hn
      rw [hn]
      generalize (lateTo ps d k)[i]?.getD 0 = y at *
      clear hcell hsu hxk h0 h1 hi
      have hnz : ¬ (n : Int) = 0 := by omega
      have hnz2 : ¬ n = 0 := by omega
      have f0 : IntKind.i64.wrap ((k : Int) + d) = (k : Int) + d := IntWalk.i64_in _ (by omega)
      have f1 : IntKind.i64.wrap q = q := IntWalk.i64_in _ (by omega)
      have f2 : IntKind.i64.wrap (q + (n : Int)) = q + (n : Int) := IntWalk.i64_in _ (by omega)
      have f3 : IntKind.i64.wrap (i : Int) = (i : Int) := IntWalk.i64_in _ (by omega)
      have g1 : (i : Int) < (n : Int) := by omega
      have g2 : (0 : Int) ≤ (i : Int) := by omega
      have g3 : (k : Int) < (n : Int) := by omega
      have g4 : (0 : Int) ≤ (k : Int) := by omega
      clear hn hlen2
      go_wp2
      go_still_tail 15, (by kernel_rfl)
      change wpList _ _ _ _ _ wr.drew
      go_wp2
      go_roundw
      case rel =>
        have hst := HROW.out.stored i (.int .i64 x)
        refine ⟨k + 1, by have := HNN.out; omega, by go_num, ?_, by (repeat (first | assumption | exact Below.refl _ _ | refine b_alloc ?_ _ | refine Below.drew ?_ | refine b_drewN ?_ _ | refine Below.setCell ?_ (by first | omega | (simp; done) | (simp; omega)) _ | refine b_call (by assumption) ?_))⟩
        rw [HSU.out, List.map_set]
        have hs1 := hst.1.drew
        rw [HNN.out] at hs1
        exact hs1
      case measure => simp [intOf]; omega
    · obtain rfl : k = ps.length := by omega
      have hrow := HROW.out
      rw [lateTo_all] at hrow
      go_wp2
      go_ret
      exact ⟨_, rfl, hrow, hbr⟩
end Go.Proofs.Ytggkhddficmnfaa
