/-
  roundsWithin.
-/
import Derived.Deep.RegionWith
import Derived.Test.YtggkhddficmnfaaPassMain
import Derived.Test.YtggkhddficmnfaaLists
namespace Go.Proofs.Ytggkhddficmnfaa
open Go.RowKit
set_option linter.unusedVariables false
set_option linter.unusedSimpArgs false

/-- The pairs that there can be at the first k temperatures from lo on. -/
def within' (l : Ln) (lo : Int) (k : Nat) (s : Int) (c : Bool) : Bool := (List.range k).any fun j => s == l.rS (lo + j) % (l.W * l.B) && c == l.rL (lo + j)
theorem within'_succ (l : Ln) (lo : Int) (k : Nat) (s : Int) (c : Bool) : within' l lo (k + 1) s c = (within' l lo k s c || (s == l.rS (lo + k) % (l.W * l.B) && c == l.rL (lo + k))) := by
  simp [within', List.range_succ]
theorem within'_zero (l : Ln) (lo : Int) (s : Int) (c : Bool) : within' l lo 0 s c = false := by simp [within']

set_option maxRecDepth 100000 in
set_option maxHeartbeats 2000000 in
theorem roundsWithin_any (l : Ln) (h : l.Ok) (lo hi : Int) (hlo : -500 ≤ lo) (hhi : hi ≤ 1000) (hle : lo ≤ hi) (w : World) :
    Calls Try.prog 73 #[l.val, .agg #[.int .i64 lo, .int .i64 hi]] w fun e w' =>
      ∃ b n, n ≤ 1501 ∧ e = .returned (.map (some b)) ∧ SetAt w' 81 b n (within' l lo (hi - lo + 1).toNat) ∧ w.heap.size ≤ b ∧ Below w.heap.size w w' := by
  obtain ⟨N, hN⟩ : ∃ N, (hi - lo + 1).toNat = N := ⟨_, rfl⟩
  have hN9 : N ≤ 1501 := by omega
  have hNz : hi = lo + N - 1 := by omega
  rw [hN]
  have hb := h.beats
  have hb' := h.beats1
  have hmm := @run_makeMap Try.prog
  have HNZ := hid hNz
  clear hNz hN
  go_enter Try.func73, Try.ntmps73
  go_wp2
  have hc0 : Cel (((w.alloc (.cells #[.int .i64 l.W, .int .i64 l.B, .int .i64 l.P, .int .i64 l.D, .int .i64 l.S, .int .i64 l.N] 25)).alloc (.cells #[.int .i64 lo, .int .i64 hi] 31)).alloc (.map #[] 0)) (w.heap.size + 1) 1 (.int .i64 hi) := by
    have := (Cel.new (w.alloc (.cells #[.int .i64 l.W, .int .i64 l.B, .int .i64 l.P, .int .i64 l.D, .int .i64 l.S, .int .i64 l.N] 25)) #[.int .i64 lo, .int .i64 hi] 31 1 _ rfl).alloc (.map #[] 0)
    simpa using this
  have hs0 := SetAt.made ((w.alloc (.cells #[.int .i64 l.W, .int .i64 l.B, .int .i64 l.P, .int .i64 l.D, .int .i64 l.S, .int .i64 l.N] 25)).alloc (.cells #[.int .i64 lo, .int .i64 hi] 31)) 81
  simp only [World.size_alloc] at hs0
  have hl0 := lnAt_call (lnAt_new' l w) (b_alloc (b_alloc (Below.refl _ _) (.cells #[.int .i64 lo, .int .i64 hi] 31)) (.map #[] 0))
  go_loopw [6] (fun i wr => ∃ k : Nat, k ≤ N ∧ i = .int .i64 (lo + k) ∧ SetAt wr 81 (w.heap.size + 1 + 1) k (within' l lo k) ∧ LnAt w.heap.size l wr ∧ Cel wr (w.heap.size + 1) 1 (.int .i64 hi) ∧ Below w.heap.size w wr) (fun i _ => N - (intOf i - lo).toNat)
  case atStart => exact ⟨0, Nat.zero_le _, by simp, hs0.congr (fun s c => (within'_zero l lo s c).symm), hl0, hc0, by (repeat (first | assumption | exact Below.refl _ _ | refine b_alloc ?_ _ | refine Below.drew ?_ | refine b_drewN ?_ _ | refine Below.setCell ?_ (by first | omega | (simp; done) | (simp; omega)) _ | refine b_call (by assumption) ?_))⟩
  case round =>
    obtain ⟨k, hk, rfl, hset, hln, hcel, hbr⟩ := hrel
    clear hc0 hs0 hl0
    have HSET := hid hset
    have HCEL := hid hcel
    have HLN := hid hln
    obtain ⟨d0, d1, d2, d3, d4, d5⟩ := id hln
    obtain ⟨q1, q2⟩ := id hcel
    clear hset hln hcel
    by_cases hlt : k < N
    · have hle1 : lo + (k : Int) ≤ hi := by have := HNZ.out; omega
      have hR := fun W => roundAt_any l h (lo + k) (by have := HNZ.out; omega) W
      rw [round_eq] at hR
      have HR := hid hR
      obtain ⟨s, hs⟩ : ∃ s, l.rS (lo + k) = s := ⟨_, rfl⟩
      obtain ⟨c, hc⟩ : ∃ c, l.rL (lo + k) = c := ⟨_, rfl⟩
      rw [hs, hc] at HR
      have HS := hid hs
      have HC := hid hc
      clear hs hc hR
      go_wp2_with (go_at_call 58; refine (HR.out _).mono ?_; rintro e w1 ⟨rfl, hb1⟩; have B1 := hid hb1; have hs1 := hb1.size; clear hb1)
      have K0 := Cel.new w1 #[.int .i64 s, .bool c] 81 0 _ rfl
      have K1 := Cel.new w1 #[.int .i64 s, .bool c] 81 1 _ rfl
      have hbr2 : Below w.heap.size w (w1.alloc (.cells #[.int .i64 s, .bool c] 81)) := b_alloc (b_call B1.out hbr) _
      have hln2 : LnAt w.heap.size l (w1.alloc (.cells #[.int .i64 s, .bool c] 81)) := lnAt_call HLN.out (b_alloc B1.out _)
      have hcel2 := (HCEL.out.call B1.out).alloc (.cells #[.int .i64 s, .bool c] 81)
      have hset2 := (HSET.out.below B1.out).alloc (.cells #[.int .i64 s, .bool c] 81)
      have hBs := HSET.out.lt
      clear d0 d1 d2 d3 d4 d5 q1 q2 hbr
      obtain ⟨B, hB⟩ : ∃ B, w1.heap.size = B := ⟨_, rfl⟩
      rw [hB] at K0 K1 ⊢
      have hBl : w.heap.size + 1 + 1 < B := by omega
      generalize w1.alloc (.cells #[.int .i64 s, .bool c] 81) = W2 at *
      clear hB hs1 B1 HCEL HLN HSET
      obtain ⟨d0, d1, d2, d3, d4, d5⟩ := id hln2
      obtain ⟨q1, q2⟩ := id K0
      obtain ⟨q3, q4⟩ := id K1
      have HLN := hid hln2
      have HCEL := hid hcel2
      have HSET := hid hset2
      have HBR := hid hbr2
      have hsz := hbr2.size
      have hB2 := K0.lt
      clear hln2 hcel2 hset2 hbr2
      have HMO := hid (fun W => modulo_any s (l.W * l.B) W (by omega) (by omega))
      go_region_with (first
        | (go_at_call 71; refine (beats_any l h _).mono ?_; rintro e w3 ⟨rfl, hb3⟩; have r0 := (Cel.call (b := B) (o := 0) (v := .int .i64 s) (by exact K0) hb3).1; have r1 := (Cel.call (b := B) (o := 0) (v := .int .i64 s) (by exact K0) hb3).2; have HB3 := hid hb3; clear hb3)
        | (go_at_call 77; refine (HMO.out _).mono ?_; rintro e w4 ⟨rfl, rfl⟩))
      all_goals
        have hb3 : Below W2.heap.size W2 w3 := ⟨HB3.out.os, HB3.out.tape, HB3.out.output, HB3.out.size, HB3.out.block⟩
        have hsz3 := hb3.size
        obtain ⟨v, hv⟩ : ∃ v, s % (l.W * l.B) = v := ⟨_, rfl⟩
        rw [hv]
        have hg3 := grownBy_setCell' w3 B (.int .i64 v)
        have C0 := World.cell?_setCell_same' w3 ⟨B, 0, none⟩ (.int .i64 v) (by rw [r0]; rfl)
        have C1 : (w3.setCell ⟨B, 0, none⟩ (.int .i64 v)).cell? ⟨B, 1, none⟩ = some (.bool c) :=
          (World.cell?_setCell_other w3 ⟨B, 0, none⟩ ⟨B, 1, none⟩ (.int .i64 v) (by simp)).trans (Cel.call K1 hb3).1
        have hset3 := (HSET.out.below hb3).kept hg3 (by simp; omega)
        have hln3 := lnAt_other (lnAt_call HLN.out hb3) (show w.heap.size ≠ B by omega) (.int .i64 v)
        have hcel3 := (HCEL.out.call hb3).set (u := .int .i64 v) (b' := B) (o' := 0) (by omega)
        have hbr3 : Below w.heap.size w (w3.setCell ⟨B, 0, none⟩ (.int .i64 v)) := (b_call hb3 HBR.out).setCell (by simp; omega) _
        have hsz4 := hbr3.size
        clear r0 r1 d0 d1 d2 d3 d4 d5 q1 q2 q3 q4 hg3 HB3 hb3
        generalize w3.setCell ⟨B, 0, none⟩ (.int .i64 v) = W4 at *
        have HV := hid hv
        clear hv
        go_wp2_with (at_mapUpdate; refine wpList_set_store _ rfl _ _ _ 105 rfl pairR Try.underlying105 _ _ _ rfl hset3 (by unfold maxLen; omega) v c rfl rfl (WalkArith.wf_i64 (by rw [← HV.out]; have := Int.emod_nonneg s (show l.W * l.B ≠ 0 by omega); have := Int.emod_lt_of_pos s (show 0 < l.W * l.B by omega); omega)) ?_; intro W5 hset5 hg5)
        refine ⟨⟨k + 1, by omega, by go_num, ?_, ?_, hcel3.grown hg5 (fun r e => by cases e; omega), hbr3.grown hg5 hsz4 (fun r e => by cases e; omega)⟩, ?_⟩
        · exact hset5.congr fun s' c' => by rw [within'_succ, HS.out, HC.out, HV.out]
        · obtain ⟨a0, a1, a2, a3, a4, a5⟩ := hln3
          have e := hg5.block w.heap.size (by have := hset3.lt; omega) (by simp; omega)
          exact ⟨(World.cell?_of_block (a := ⟨w.heap.size, 0, none⟩) e).trans a0, (World.cell?_of_block (a := ⟨w.heap.size, 1, none⟩) e).trans a1, (World.cell?_of_block (a := ⟨w.heap.size, 2, none⟩) e).trans a2, (World.cell?_of_block (a := ⟨w.heap.size, 3, none⟩) e).trans a3, (World.cell?_of_block (a := ⟨w.heap.size, 4, none⟩) e).trans a4, (World.cell?_of_block (a := ⟨w.heap.size, 5, none⟩) e).trans a5⟩
        · simp only [intOf]; omega
    · obtain rfl : k = N := by omega
      have hle1 : ¬ lo + (k : Int) ≤ hi := by have := HNZ.out; omega
      go_wp2
      go_ret
      exact ⟨_, k, by omega, rfl, HSET.out, by omega, hbr⟩
end Go.Proofs.Ytggkhddficmnfaa
