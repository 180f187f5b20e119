/-
  The reference's first states of an oven.
-/
import Derived.Test.YtlocdkjnefmiaaaOvenMain
import Derived.Test.YtlocdkjnefmiaaaGRefCan
import Derived.Test.YtlocdkjnefmiaaaNarrowMath
namespace Go.Proofs.Ytlocdkjnefmiaaa
open Go.RowKit
set_option linter.unusedVariables false
set_option linter.unusedSimpArgs false

theorem infoT : (Try.prog.info? 121).map (fun i => (i.zero, i.size, i.bytes)) = some (some (.agg #[.int .i64 0, .bool false]), 2, 16) := by kernel_rfl
theorem two_newT (W : World) (n : Nat) (x y : Value) (t : TypeId) (hn : n = W.heap.size) : ∀ (j : Nat) (u : Value), [x, y][j]? = some u → (W.alloc (.cells #[x, y] t)).cell? ((⟨n, 0, none⟩ : Addr).add j) = some u := by subst hn; exact two_new W x y t

set_option maxRecDepth 100000 in
set_option maxHeartbeats 2000000 in
theorem refBegin_any (s : Int × Int) (h : Bool) (h1 : -500 ≤ s.1) (h2 : s.2 ≤ 1000) (h3 : s.1 ≤ s.2) (w : World) :
    Calls Try.prog 82 #[spanV s, .bool h] w fun e w' => ∃ v, e = .returned v ∧ w'.ownsRow w.heap.size 121 2 v (s.2 - s.1 + 1).toNat (cellsC (spread s.1 h (s.2 - s.1 + 1).toNat)) ∧ Below w.heap.size w w' := by
  obtain ⟨lo, hi⟩ := s
  obtain ⟨iT, hiT, hzT0, hzT1, hzT2⟩ := info_parts infoT
  simp only at h1 h2 h3
  obtain ⟨N, hN⟩ : ∃ N : Nat, (hi - lo + 1).toNat = N := ⟨_, rfl⟩
  have hNi : lo + (N : Int) = hi + 1 := by omega
  have HN := hid hN
  clear hN
  have HB0 := hid (b_alloc (Below.refl w.heap.size w) (.cells #[.int .i64 lo, .int .i64 hi] 31))
  have HS0 := hid (And.intro (Cel.new w #[.int .i64 lo, .int .i64 hi] 31 0 _ rfl) (Cel.new w #[.int .i64 lo, .int .i64 hi] 31 1 _ rfl))
  have hs0 : w.heap.size < (w.alloc (.cells #[.int .i64 lo, .int .i64 hi] 31)).heap.size := by simp
  go_enter Try.func82, Try.ntmps82
  go_wp2
  generalize w.alloc (.cells #[.int .i64 lo, .int .i64 hi] 31) = W0 at *
  have hw0 : W0.ownsRow W0.heap.size 121 2 (.slice none 0 0) 0 (cellsC (spread lo h 0)) := ⟨by simp [spread, cellsC], .inl ⟨rfl, rfl⟩⟩
  go_loopw [5, 6] (fun v i wr => ∃ k : Nat, k ≤ N ∧ i = .int .i64 (lo + (k : Int)) ∧ wr.ownsRow W0.heap.size 121 2 v k (cellsC (spread lo h k)) ∧ Below W0.heap.size W0 wr) (fun _ i _ => (hi + 1 - intOf i).toNat)
  case atStart => exact ⟨0, Nat.zero_le _, by simp, hw0, Below.refl _ _⟩
  case round =>
    clear hw0
    obtain ⟨k, hk, rfl, hrow, hbr⟩ := hrel
    have HROW := hid hrow
    have HB := hid hbr
    obtain ⟨c0, f0⟩ := HS0.out.1.call hbr
    obtain ⟨c1, f1⟩ := HS0.out.2.call hbr
    have hsz := hbr.size
    clear hrow hbr
    by_cases hlt : k < N
    · have q1 : lo + (k : Int) ≤ hi := by omega
      have q2 : IntKind.i64.wrap (lo + (k : Int) + 1) = lo + (k : Int) + 1 := IntWalk.i64_in _ (by omega)
      go_wp2_with (at_builtin; refine wpList_append_own _ rfl _ _ 117 rfl W0.heap.size 121 iT (.agg #[.int .i64 0, .bool false]) 2 16 Try.underlying117 hiT hzT0 hzT1 hzT2 rfl (by decide) _ _ _ rfl (HROW.out.alloc _) ⟨wr.heap.size, 0, none⟩ 1 1 [.int .i64 (lo + (k : Int)), .bool h] rfl rfl (two_newT _ _ _ _ _ (by simp)) (by intro u hu; simp at hu; rcases hu with rfl | rfl <;> rfl) (by unfold maxLen; omega) (by omega) (by simp; omega) ?_; intro v' w3 hown3 hg3 hnil)
      go_roundw
      case rel =>
        have hg1 := ownsRow_block HROW.out
        refine ⟨k + 1, by omega, by go_num, ?_, (b_alloc HB.out _).grown hg3 (by simp; omega) (fun r e => by have := hg1 r e; omega)⟩
        rw [spread_succ, cellsC_snoc]; exact hown3
      case measure => simp [intOf]; omega
    · obtain rfl : k = N := by omega
      have q1 : ¬ lo + (k : Int) ≤ hi := by omega
      go_wp2
      go_ret
      refine ⟨_, rfl, ?_, ?_⟩
      · show World.ownsRow _ _ _ _ _ ((hi - lo + 1).toNat) (cellsC (spread lo h (hi - lo + 1).toNat))
        rw [HN.out]
        have hz := HB0.out.size
        exact ⟨HROW.out.1, HROW.out.2.imp id (fun ⟨g, cap, cur, e, hg, r⟩ => ⟨g, cap, cur, e, by omega, r⟩)⟩
      · exact b_call HB.out HB0.out
end Go.Proofs.Ytlocdkjnefmiaaa
