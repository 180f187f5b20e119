/-
  The reference's Ints: whether two lists are equal.
-/
import Derived.Deep.LoopGhost
import Derived.Deep.DeepCutAuto
import Derived.Test.YtbfhgcnfhjhgcaaWords
namespace Go.Proofs.Ytbfhgcnfhjhgcaa
open Go.RowKit
set_option linter.unusedVariables false
set_option linter.unusedSimpArgs false

theorem list_eq_of {xs ys : List Int} (h : xs.length = ys.length) (hall : ∀ j, j < xs.length → xs[j]?.getD 0 = ys[j]?.getD 0) : xs = ys := by
  apply List.ext_getElem h
  intro i h1 h2
  have := hall i h1
  simpa [h1, h2] using this
set_option maxHeartbeats 1000000 in
theorem Ints_any (a b : Option Addr) (ca cb : Nat) (xs ys : List Int) (hn : Len xs.length) (hm : Len ys.length) (w : World) (hx : IntsAt w a xs) (hy : IntsAt w b ys) : Calls Try.prog 38 #[.slice a xs.length ca, .slice b ys.length cb] w (Ret w (.bool (decide (xs = ys)))) := by
  by_cases hl : xs.length = ys.length
  · have hl1 : ((xs.length : Int) != (ys.length : Int)) = false := by simp; omega
    have HL := hid hl
    have HX := hid hx
    have HY := hid hy
    clear hl hx hy
    go_enter Try.func38, Try.ntmps38
    go_wp2
    go_loopw [5] (fun i wr => ∃ k : Nat, k ≤ xs.length ∧ i = .int .i64 k ∧ (∀ j, j < k → xs[j]?.getD 0 = ys[j]?.getD 0) ∧ IntsAt wr a xs ∧ IntsAt wr b ys ∧ Below w.heap.size w wr) (fun i _ => xs.length - (intOf i).toNat)
    case atStart => exact ⟨0, by omega, rfl, fun j hj => by omega, HX.out, HY.out, by (repeat (first | assumption | exact Below.refl _ _ | refine b_alloc ?_ _ | refine Below.drew ?_ | refine b_drewN ?_ _ | refine Below.setCell ?_ (by first | omega | (simp; done) | (simp; omega)) _ | refine b_call (by assumption) ?_))⟩
    case round =>
      obtain ⟨k, hk, rfl, hall, hx2, hy2, hbr⟩ := hrel
      have HA := hid hall
      have HX2 := hid hx2
      have HY2 := hid hy2
      clear hall hx2 hy2
      by_cases hlt : k < xs.length
      · obtain ⟨b1, o1, rfl, c1⟩ := HX2.out k hlt
        have hlt2 : k < ys.length := by rw [← HL.out]; exact hlt
        obtain ⟨b2, o2, rfl, c2⟩ := HY2.out k hlt2
        have hi0 : (0 : Int) ≤ (k : Int) := by omega
        have hi1 : (k : Int) < (xs.length : Int) := by omega
        have hi2 : (k : Int) < (ys.length : Int) := by omega
        by_cases hin : xs[k] = ys[k]
        · have hd : (xs[k] == ys[k]) = true := by simpa using hin
          have hd2 : (xs[k] != ys[k]) = false := by simpa using hin
          have HI := hid hin
          clear hin
          go_wp2
          go_quiet (fail)
          go_wp2
          go_roundw
          case rel => exact ⟨k + 1, by omega, by go_num, (fun j hj => by
            by_cases e : j = k
            · subst e; simpa [hlt, hlt2] using HI.out
            · exact HA.out j (by omega)), HX2.out, HY2.out, by (repeat (first | assumption | exact Below.refl _ _ | refine b_alloc ?_ _ | refine Below.drew ?_ | refine b_drewN ?_ _ | refine Below.setCell ?_ (by first | omega | (simp; done) | (simp; omega)) _ | refine b_call (by assumption) ?_))⟩
          case measure => simp [intOf]; omega
        · have hd : (xs[k] == ys[k]) = false := by simpa using hin
          have hd2 : (xs[k] != ys[k]) = true := by simpa using hin
          have hE := hid (show decide (xs = ys) = false from decide_eq_false (fun e => hin (by subst e; rfl)))
          clear hin
          go_wp2
          go_quiet (fail)
          go_wp2
          go_ret
          exact ⟨by rw [hE.out]; rfl, by (repeat (first | assumption | exact Below.refl _ _ | refine b_alloc ?_ _ | refine Below.drew ?_ | refine b_drewN ?_ _ | refine Below.setCell ?_ (by first | omega | (simp; done) | (simp; omega)) _ | refine b_call (by assumption) ?_))⟩
      · obtain rfl : k = xs.length := by omega
        have hE := hid (show decide (xs = ys) = true from decide_eq_true (list_eq_of HL.out HA.out))
        go_wp2
        go_ret
        exact ⟨by rw [hE.out]; rfl, by (repeat (first | assumption | exact Below.refl _ _ | refine b_alloc ?_ _ | refine Below.drew ?_ | refine b_drewN ?_ _ | refine Below.setCell ?_ (by first | omega | (simp; done) | (simp; omega)) _ | refine b_call (by assumption) ?_))⟩
  · have hl1 : ((xs.length : Int) != (ys.length : Int)) = true := by simp; omega
    have hE := hid (show decide (xs = ys) = false from decide_eq_false (fun e => hl (by rw [e])))
    go_enter Try.func38, Try.ntmps38
    go_wp2
    go_ret
    exact ⟨by rw [hE.out]; rfl, by (repeat (first | assumption | exact Below.refl _ _ | refine b_alloc ?_ _ | refine Below.drew ?_ | refine b_drewN ?_ _ | refine Below.setCell ?_ (by first | omega | (simp; done) | (simp; omega)) _ | refine b_call (by assumption) ?_))⟩
end Go.Proofs.Ytbfhgcnfhjhgcaa
