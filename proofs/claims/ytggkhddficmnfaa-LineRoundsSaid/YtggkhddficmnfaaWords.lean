/-
  Contracts of the errors of words: wordsError, the reference's Words and Power; equal lists.
-/
import Derived.Test.YtggkhddficmnfaaNext
namespace Go.Proofs.Ytggkhddficmnfaa
open Go.RowKit
set_option linter.unusedVariables false
set_option linter.unusedSimpArgs false

theorem quiet_eq {P : Program} {f : FuncId} {args : Array Value} {w : World} {n : Nat} {v : Value}
    (h : Calls P f args (w.drewN n) fun e w' => e = .returned v ∧ w.drewN n = w') : Calls P f args (w.drewN n) fun e w'' => e = .returned v ∧ ∃ m, w'' = w.drewN m :=
  h.mono fun _ _ ⟨he, hm⟩ => ⟨he, n, hm.symm⟩
/-- The slice that begins at a holds the numbers xs. -/
def IntsAt (W : World) (a : Option Addr) (xs : List Int) : Prop :=
  ∀ j, j < xs.length → ∃ b off, a = some ⟨b, off, none⟩ ∧ W.cell? ⟨b, off + j, none⟩ = some (.int .i64 (xs[j]?.getD 0))
theorem IntsAt.below {W W' : World} {a : Option Addr} {xs : List Int} (h : IntsAt W a xs) (hb : Below W.heap.size W W') : IntsAt W' a xs := fun j hj => by
  obtain ⟨b, off, e, hc⟩ := h j hj
  exact ⟨b, off, e, cell_later hb hc⟩
theorem IntsAt.alloc {W : World} {a : Option Addr} {xs : List Int} (h : IntsAt W a xs) (o : Obj) : IntsAt (W.alloc o) a xs := h.below ((Below.refl _ _).alloc (Nat.le_refl _) _)
/-- A length that no slice goes beyond. -/
abbrev Len (n : Nat) : Prop := n ≤ 17592186044416

def pw (b : Int) : Int := 2 ^ b.toNat
theorem pw_succ {b : Int} (h : 0 ≤ b) : pw (b + 1) = 2 * pw b := by
  unfold pw; rw [show (b + 1).toNat = b.toNat + 1 by omega, Int.pow_succ, Int.mul_comm]
theorem pw_mono {a b : Int} (h : a ≤ b) : pw a ≤ pw b := by
  unfold pw
  have h1 : (2 : Nat) ^ a.toNat ≤ 2 ^ b.toNat := Nat.pow_le_pow_right (by omega) (by omega)
  have e1 : ((2 ^ a.toNat : Nat) : Int) = (2 : Int) ^ a.toNat := by simp
  have e2 : ((2 ^ b.toNat : Nat) : Int) = (2 : Int) ^ b.toNat := by simp
  omega
theorem pw_pos (b : Int) : 1 ≤ pw b := by
  have := pw_mono (show (0 : Int) ≤ if 0 ≤ b then b else 0 by split <;> omega)
  split at this
  · simpa [pw] using this
  · rename_i h; unfold pw; rw [show b.toNat = 0 by omega]; decide
theorem pw_40 : pw 40 = 1099511627776 := by decide
theorem pw_bd {b : Int} (h : b ≤ 40) : 1 ≤ pw b ∧ pw b ≤ 1099511627776 := ⟨pw_pos b, by have := pw_mono h; rwa [pw_40] at this⟩

def wordsOk (b : Int) (ws : List Int) : Prop := ∀ x ∈ ws, 0 ≤ x ∧ x ≤ pw b - 1
instance (b : Int) (ws : List Int) : Decidable (wordsOk b ws) := by unfold wordsOk; infer_instance
def wErr (b : Int) (ws : List Int) : Int := if wordsOk b ws then 0 else 7
def wordsErr (l : Ln) (ws : List Int) : Int := if (ws.length : Int) = l.W then wErr l.B ws else 3
theorem wordsOk_step {b : Int} {ws : List Int} (h : ∀ j, j < ws.length → 0 ≤ ws[j]?.getD 0 ∧ ws[j]?.getD 0 ≤ pw b - 1) : wordsOk b ws := fun x hx => by
  obtain ⟨j, hj, rfl⟩ := List.mem_iff_getElem.1 hx
  have := h j hj
  simpa [hj] using this
theorem wordsOk_not {b : Int} {ws : List Int} {j : Nat} (hj : j < ws.length) (h : ¬ (0 ≤ ws[j]?.getD 0 ∧ ws[j]?.getD 0 ≤ pw b - 1)) : ¬ wordsOk b ws := fun g => by
  apply h
  have := g _ (List.getElem_mem hj)
  simpa [hj] using this

set_option maxHeartbeats 1000000 in
theorem Power_any (n : Int) (h0 : 0 ≤ n) (h1 : n ≤ 60) (w : World) : Calls Try.prog 93 #[.int .i64 n] w fun e w' => e = .returned (.int .i64 (pw n)) ∧ w = w' := by
  go_enter Try.func93, Try.ntmps93
  go_wp2
  go_loop [3, 4] (fun x i => ∃ k : Int, 0 ≤ k ∧ k ≤ n ∧ i = .int .i64 k ∧ x = .int .i64 (pw k)) (fun _ i => (n - intOf i).toNat)
  case atStart => exact ⟨0, by omega, by omega, rfl, rfl⟩
  case round =>
    obtain ⟨k, hk0, hk1, rfl, rfl⟩ := hrel
    have hp : 1 ≤ pw k ∧ pw k ≤ 1152921504606846976 := ⟨pw_pos k, by have := pw_mono (show k ≤ 60 by omega); rwa [show pw 60 = 1152921504606846976 by decide] at this⟩
    by_cases hlt : k < n
    · go_wp2
      go_round
      case rel => exact ⟨k + 1, by omega, by omega, by go_num, by rw [pw_succ hk0]⟩
      case measure => simp [intOf]; omega
    · obtain rfl : k = n := by omega
      go_wp2
      go_ret
      exact ⟨rfl, rfl⟩

set_option maxHeartbeats 1000000 in
theorem wordsError_ok (l : Ln) (h : l.Ok) (a : Option Addr) (cap : Nat) (ws : List Int) (hlen : (ws.length : Int) = l.W) (w : World) (hx : IntsAt w a ws) : Calls Try.prog 84 #[l.val, .slice a ws.length cap] w (Ret w (.int .i64 (wErr l.B ws))) := by
  obtain ⟨h1, h2, _⟩ := id h
  have hp := pw_bd h2.2
  obtain ⟨lw, lb, lp, ld, ls, ln⟩ := l
  simp only at hlen h1 h2 hp
  subst hlen
  have hx1 := hid (hx.alloc (.cells #[.int .i64 ws.length, .int .i64 lb, .int .i64 lp, .int .i64 ld, .int .i64 ls, .int .i64 ln] 25))
  go_enter Try.func84, Try.ntmps84
  go_wp2
  go_loop [6, 14] (fun _ i => ∃ k : Nat, k ≤ ws.length ∧ i = .int .i64 k ∧ ∀ j, j < k → 0 ≤ ws[j]?.getD 0 ∧ ws[j]?.getD 0 ≤ pw lb - 1) (fun _ i => ws.length - (intOf i).toNat)
  case atStart => exact ⟨0, by omega, rfl, fun j hj => by omega⟩
  case round =>
    obtain ⟨k, hk, rfl, hall⟩ := hrel
    have HA := hid hall
    clear hall
    by_cases hlt : k < ws.length
    · obtain ⟨b, off, rfl, hc⟩ := hx1.out k hlt
      have hpw : (2 : Int) ^ lb.toNat = pw lb := rfl
      by_cases hin : 0 ≤ ws[k] ∧ ws[k] ≤ pw lb - 1
      · have hd : decide (0 ≤ ws[k] ∧ ws[k] ≤ pw lb - 1) = true := by simpa using hin
        go_wp2_with (go_at_call 53; refine (within_any _ _ _ _).mono ?_; rintro e w1 ⟨rfl, rfl⟩)
        go_round
        case rel => exact ⟨k + 1, by omega, by go_num, fun j hj => by
          by_cases e : j = k
          · subst e; simpa [hlt] using hin
          · exact HA.out j (by omega)⟩
        case measure => simp [intOf]; omega
      · have hd : decide (0 ≤ ws[k] ∧ ws[k] ≤ pw lb - 1) = false := by simpa using hin
        have hE := hid (show wErr lb ws = 7 from if_neg (wordsOk_not hlt (by simpa [hlt] using hin)))
        go_wp2_with (go_at_call 53; refine (within_any _ _ _ _).mono ?_; rintro e w1 ⟨rfl, rfl⟩)
        go_ret
        exact ⟨by rw [hE.out]; rfl, by (repeat (first | assumption | exact Below.refl _ _ | refine b_alloc ?_ _ | refine Below.drew ?_ | refine b_drewN ?_ _ | refine Below.setCell ?_ (by first | omega | (simp; done) | (simp; omega)) _ | refine b_call (by assumption) ?_))⟩
    · obtain rfl : k = ws.length := by omega
      have hE := hid (show wErr lb ws = 0 from if_pos (wordsOk_step HA.out))
      go_wp2
      go_ret
      exact ⟨by rw [hE.out]; rfl, by (repeat (first | assumption | exact Below.refl _ _ | refine b_alloc ?_ _ | refine Below.drew ?_ | refine b_drewN ?_ _ | refine Below.setCell ?_ (by first | omega | (simp; done) | (simp; omega)) _ | refine b_call (by assumption) ?_))⟩

set_option maxHeartbeats 1000000 in
theorem wordsError_no (l : Ln) (a : Option Addr) (cap : Nat) (ws : List Int) (hlen : (ws.length : Int) ≠ l.W) (w : World) : Calls Try.prog 84 #[l.val, .slice a ws.length cap] w (Ret w (.int .i64 3)) := by
  have hl1 : ((ws.length : Int) != l.W) = true := by simpa using hlen
  go_enter Try.func84, Try.ntmps84
  go_wp2
  go_ret
  exact ⟨rfl, by (repeat (first | assumption | exact Below.refl _ _ | refine b_alloc ?_ _ | refine Below.drew ?_ | refine b_drewN ?_ _ | refine Below.setCell ?_ (by first | omega | (simp; done) | (simp; omega)) _ | refine b_call (by assumption) ?_))⟩
theorem wordsError_any (l : Ln) (h : l.Ok) (a : Option Addr) (cap : Nat) (ws : List Int) (w : World) (hx : IntsAt w a ws) : Calls Try.prog 84 #[l.val, .slice a ws.length cap] w (Ret w (.int .i64 (wordsErr l ws))) := by
  unfold wordsErr
  split
  · rename_i e; exact wordsError_ok l h a cap ws e w hx
  · rename_i e; exact wordsError_no l a cap ws e w

/-! ### the reference's Words -/
set_option maxHeartbeats 1000000 in
theorem refWords_ok (l : Ln) (h : l.Ok) (a : Option Addr) (cap : Nat) (ws : List Int) (hlen : (ws.length : Int) = l.W) (w : World) (hx : IntsAt w a ws) : Calls Try.prog 68 #[l.val, .slice a ws.length cap] w (Ret w (.int .i64 (wErr l.B ws))) := by
  obtain ⟨h1, h2, _⟩ := id h
  have hp := pw_bd h2.2
  obtain ⟨lw, lb, lp, ld, ls, ln⟩ := l
  simp only at hlen h1 h2 hp
  subst hlen
  have hx1 := hid (hx.alloc (.cells #[.int .i64 ws.length, .int .i64 lb, .int .i64 lp, .int .i64 ld, .int .i64 ls, .int .i64 ln] 25))
  go_enter Try.func68, Try.ntmps68
  go_wp2
  go_loopw [5] (fun i wr => ∃ k : Nat, k ≤ ws.length ∧ i = .int .i64 k ∧ (∀ j, j < k → 0 ≤ ws[j]?.getD 0 ∧ ws[j]?.getD 0 ≤ pw lb - 1) ∧ wr.cell? ⟨w.heap.size, 1, none⟩ = some (.int .i64 lb) ∧ IntsAt wr a ws ∧ Below w.heap.size w wr) (fun i _ => ws.length - (intOf i).toNat)
  case atStart => exact ⟨0, by omega, rfl, fun j hj => by omega, by simp [go_sem], hx1.out, by (repeat (first | assumption | exact Below.refl _ _ | refine b_alloc ?_ _ | refine Below.drew ?_ | refine b_drewN ?_ _ | refine Below.setCell ?_ (by first | omega | (simp; done) | (simp; omega)) _ | refine b_call (by assumption) ?_))⟩
  case round =>
    obtain ⟨k, hk, rfl, hall, c1, hx2, hbr⟩ := hrel
    have HA := hid hall
    have HX := hid hx2
    clear hall hx2
    have hpw : (2 : Int) ^ lb.toNat = pw lb := rfl
    have e1 : IntKind.i64.wrap (pw lb - 1) = pw lb - 1 := IntWalk.i64_in _ (by omega)
    by_cases hlt : k < ws.length
    · obtain ⟨b, off, rfl, hc⟩ := HX.out k hlt
      have hi0 : (0 : Int) ≤ (k : Int) := by omega
      have hi1 : (k : Int) < (ws.length : Int) := by omega
      by_cases hin : 0 ≤ ws[k] ∧ ws[k] ≤ pw lb - 1
      · have hd : decide (0 ≤ ws[k] ∧ ws[k] ≤ pw lb - 1) = true := by simpa using hin
        go_wp2
        go_quiet (first | (go_at_call 93; exact quiet_eq (Power_any _ (by omega) (by omega) _)) | (go_at_call 56; exact quiet_eq (in_any _ _ _ _)))
        go_wp2
        go_roundw
        case rel => exact ⟨k + 1, by omega, by go_num, (fun j hj => by
          by_cases e : j = k
          · subst e; simpa [hlt] using hin
          · exact HA.out j (by omega)), c1, HX.out, by (repeat (first | assumption | exact Below.refl _ _ | refine b_alloc ?_ _ | refine Below.drew ?_ | refine b_drewN ?_ _ | refine Below.setCell ?_ (by first | omega | (simp; done) | (simp; omega)) _ | refine b_call (by assumption) ?_))⟩
        case measure => simp [intOf]; omega
      · have hd : decide (0 ≤ ws[k] ∧ ws[k] ≤ pw lb - 1) = false := by simpa using hin
        have hE := hid (show wErr lb ws = 7 from if_neg (wordsOk_not hlt (by simpa [hlt] using hin)))
        go_wp2
        go_quiet (first | (go_at_call 93; exact quiet_eq (Power_any _ (by omega) (by omega) _)) | (go_at_call 56; exact quiet_eq (in_any _ _ _ _)))
        go_wp2
        go_ret
        exact ⟨by rw [hE.out]; rfl, by (repeat (first | assumption | exact Below.refl _ _ | refine b_alloc ?_ _ | refine Below.drew ?_ | refine b_drewN ?_ _ | refine Below.setCell ?_ (by first | omega | (simp; done) | (simp; omega)) _ | refine b_call (by assumption) ?_))⟩
    · obtain rfl : k = ws.length := by omega
      have hE := hid (show wErr lb ws = 0 from if_pos (wordsOk_step HA.out))
      go_wp2
      go_ret
      exact ⟨by rw [hE.out]; rfl, by (repeat (first | assumption | exact Below.refl _ _ | refine b_alloc ?_ _ | refine Below.drew ?_ | refine b_drewN ?_ _ | refine Below.setCell ?_ (by first | omega | (simp; done) | (simp; omega)) _ | refine b_call (by assumption) ?_))⟩
set_option maxHeartbeats 1000000 in
theorem refWords_no (l : Ln) (a : Option Addr) (cap : Nat) (ws : List Int) (hlen : (ws.length : Int) ≠ l.W) (w : World) : Calls Try.prog 68 #[l.val, .slice a ws.length cap] w (Ret w (.int .i64 3)) := by
  have hl1 : ((ws.length : Int) != l.W) = true := by simpa using hlen
  go_enter Try.func68, Try.ntmps68
  go_wp2
  go_ret
  exact ⟨rfl, by (repeat (first | assumption | exact Below.refl _ _ | refine b_alloc ?_ _ | refine Below.drew ?_ | refine b_drewN ?_ _ | refine Below.setCell ?_ (by first | omega | (simp; done) | (simp; omega)) _ | refine b_call (by assumption) ?_))⟩
theorem refWords_any (l : Ln) (h : l.Ok) (a : Option Addr) (cap : Nat) (ws : List Int) (w : World) (hx : IntsAt w a ws) : Calls Try.prog 68 #[l.val, .slice a ws.length cap] w (Ret w (.int .i64 (wordsErr l ws))) := by
  unfold wordsErr
  split
  · rename_i e; exact refWords_ok l h a cap ws e w hx
  · rename_i e; exact refWords_no l a cap ws e w

/-! ### equal lists -/
theorem list_eq_of {xs ys : List Int} (h : xs.length = ys.length) (hall : ∀ j, j < xs.length → xs[j]?.getD 0 = ys[j]?.getD 0) : xs = ys := by
  apply List.ext_getElem h
  intro i h1 h2
  have := hall i h1
  simpa [h1, h2] using this
set_option maxHeartbeats 1000000 in
theorem Ints_any (a b : Option Addr) (ca cb : Nat) (xs ys : List Int) (hn : Len xs.length) (hm : Len ys.length) (w : World) (hx : IntsAt w a xs) (hy : IntsAt w b ys) : Calls Try.prog 31 #[.slice a xs.length ca, .slice b ys.length cb] w (Ret w (.bool (decide (xs = ys)))) := by
  by_cases hl : xs.length = ys.length
  · have hl1 : ((xs.length : Int) != (ys.length : Int)) = false := by simp; omega
    have HL := hid hl
    have HX := hid hx
    have HY := hid hy
    clear hl hx hy
    go_enter Try.func31, Try.ntmps31
    go_wp2
    go_loopw [5] (fun i wr => ∃ k : Nat, k ≤ xs.length ∧ i = .int .i64 k ∧ (∀ j, j < k → xs[j]?.getD 0 = ys[j]?.getD 0) ∧ IntsAt wr a xs ∧ IntsAt wr b ys ∧ Below w.heap.size w wr) (fun i _ => xs.length - (intOf i).toNat)
    case atStart => exact ⟨0, by omega, rfl, fun j hj => by omega, HX.out, HY.out, by (repeat (first | assumption | exact Below.refl _ _ | refine b_alloc ?_ _ | refine Below.drew ?_ | refine b_drewN ?_ _ | refine Below.setCell ?_ (by first | omega | (simp; done) | (simp; omega)) _ | refine b_call (by assumption) ?_))⟩
    case round =>
      obtain ⟨k, hk, rfl, hall, hx2, hy2, hbr⟩ := hrel
      have HA := hid hall
      have HX2 := hid hx2
      have HY2 := hid hy2
      clear hall hx2 hy2
      by_cases hlt : k < xs.length
      · obtain ⟨b1, o1, rfl, c1⟩ := HX2.out k hlt
        have hlt2 : k < ys.length := by rw [← HL.out]; exact hlt
        obtain ⟨b2, o2, rfl, c2⟩ := HY2.out k hlt2
        have hi0 : (0 : Int) ≤ (k : Int) := by omega
        have hi1 : (k : Int) < (xs.length : Int) := by omega
        have hi2 : (k : Int) < (ys.length : Int) := by omega
        by_cases hin : xs[k] = ys[k]
        · have hd : (xs[k] == ys[k]) = true := by simpa using hin
          have hd2 : (xs[k] != ys[k]) = false := by simpa using hin
          have HI := hid hin
          clear hin
          go_wp2
          go_quiet (fail)
          go_wp2
          go_roundw
          case rel => exact ⟨k + 1, by omega, by go_num, (fun j hj => by
            by_cases e : j = k
            · subst e; simpa [hlt, hlt2] using HI.out
            · exact HA.out j (by omega)), HX2.out, HY2.out, by (repeat (first | assumption | exact Below.refl _ _ | refine b_alloc ?_ _ | refine Below.drew ?_ | refine b_drewN ?_ _ | refine Below.setCell ?_ (by first | omega | (simp; done) | (simp; omega)) _ | refine b_call (by assumption) ?_))⟩
          case measure => simp [intOf]; omega
        · have hd : (xs[k] == ys[k]) = false := by simpa using hin
          have hd2 : (xs[k] != ys[k]) = true := by simpa using hin
          have hE := hid (show decide (xs = ys) = false from decide_eq_false (fun e => hin (by subst e; rfl)))
          clear hin
          go_wp2
          go_quiet (fail)
          go_wp2
          go_ret
          exact ⟨by rw [hE.out]; rfl, by (repeat (first | assumption | exact Below.refl _ _ | refine b_alloc ?_ _ | refine Below.drew ?_ | refine b_drewN ?_ _ | refine Below.setCell ?_ (by first | omega | (simp; done) | (simp; omega)) _ | refine b_call (by assumption) ?_))⟩
      · obtain rfl : k = xs.length := by omega
        have hE := hid (show decide (xs = ys) = true from decide_eq_true (list_eq_of HL.out HA.out))
        go_wp2
        go_ret
        exact ⟨by rw [hE.out]; rfl, by (repeat (first | assumption | exact Below.refl _ _ | refine b_alloc ?_ _ | refine Below.drew ?_ | refine b_drewN ?_ _ | refine Below.setCell ?_ (by first | omega | (simp; done) | (simp; omega)) _ | refine b_call (by assumption) ?_))⟩
  · have hl1 : ((xs.length : Int) != (ys.length : Int)) = true := by simp; omega
    have hE := hid (show decide (xs = ys) = false from decide_eq_false (fun e => hl (by rw [e])))
    go_enter Try.func31, Try.ntmps31
    go_wp2
    go_ret
    exact ⟨by rw [hE.out]; rfl, by (repeat (first | assumption | exact Below.refl _ _ | refine b_alloc ?_ _ | refine Below.drew ?_ | refine b_drewN ?_ _ | refine Below.setCell ?_ (by first | omega | (simp; done) | (simp; omega)) _ | refine b_call (by assumption) ?_))⟩
end Go.Proofs.Ytggkhddficmnfaa
