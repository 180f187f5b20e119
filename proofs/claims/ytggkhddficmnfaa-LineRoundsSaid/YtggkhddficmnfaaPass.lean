/-
  Contracts of passError, rounds, and Pass.
-/
import Derived.Test.YtggkhddficmnfaaJoin
import Derived.Test.YtggkhddficmnfaaSafe
namespace Go.Proofs.Ytggkhddficmnfaa
open Go.RowKit Go.Shelf
set_option linter.unusedVariables false
set_option linter.unusedSimpArgs false

def tempsOk (ts : List Int) : Prop := ∀ t ∈ ts, Temp t
instance (ts : List Int) : Decidable (tempsOk ts) := by unfold tempsOk; infer_instance
def tErr (ts : List Int) : Int := if tempsOk ts then 0 else 7
def passErr (l : Ln) (ws ts : List Int) : Int :=
  if l.Ok then (if wordsErr l ws = 0 then (if ts.length ≤ 60 then tErr ts else 3) else wordsErr l ws) else 7
theorem tempsOk_step {ws : List Int} (h : ∀ j, j < ws.length → Temp (ws[j]?.getD 0)) : tempsOk ws := fun x hx => by
  obtain ⟨j, hj, rfl⟩ := List.mem_iff_getElem.1 hx
  have := h j hj
  simpa [hj] using this
theorem tempsOk_not {ws : List Int} {j : Nat} (hj : j < ws.length) (h : ¬ Temp (ws[j]?.getD 0)) : ¬ tempsOk ws := fun g => by
  apply h
  have := g _ (List.getElem_mem hj)
  simpa [hj] using this
theorem wordsErr_cases (l : Ln) (ws : List Int) : wordsErr l ws = 0 ∨ wordsErr l ws = 3 ∨ wordsErr l ws = 7 := by
  unfold wordsErr wErr; split <;> (try split) <;> simp

set_option maxHeartbeats 1000000 in
theorem passError_no (l : Ln) (h : ¬ l.Ok) (a b : Option Addr) (ca cb : Nat) (ws ts : List Int) (w : World) :
    Calls Try.prog 63 #[l.val, .slice a ws.length ca, .slice b ts.length cb] w (Ret w (.int .i64 7)) := by
  go_enter Try.func63, Try.ntmps63
  go_wp2_with (go_at_call 25; refine (Check_no l h _).mono ?_; rintro e w1 ⟨rfl, hb1⟩; obtain ⟨hc1, hf1⟩ := bcell hb1)
  go_ret
  exact ⟨rfl, by (repeat (first | assumption | exact Below.refl _ _ | refine b_alloc ?_ _ | refine Below.drew ?_ | refine b_drewN ?_ _ | refine Below.setCell ?_ (by first | omega | (simp; done) | (simp; omega)) _ | refine b_call (by assumption) ?_))⟩
set_option maxHeartbeats 1000000 in
theorem passError_words (l : Ln) (h : l.Ok) (a b : Option Addr) (ca cb : Nat) (ws ts : List Int) (w : World) (hx : IntsAt w a ws) (e : Int) (he : wordsErr l ws = e) (hne : e ≠ 0) :
    Calls Try.prog 63 #[l.val, .slice a ws.length ca, .slice b ts.length cb] w (Ret w (.int .i64 e)) := by
  have HX := hid hx
  have HE := hid he
  have hne2 : (e != 0) = true := by simpa using hne
  clear hx he
  go_enter Try.func63, Try.ntmps63
  go_wp2_with (first | ((go_at_call 25; refine (Check_ok l h _).mono ?_; rintro e w1 ⟨rfl, hb1⟩; obtain ⟨hc1, hf1⟩ := bcell hb1); have hI := hid ((HX.out.alloc _).below hb1)) | (go_at_call 84; refine (wordsError_any l h a ca ws _ hI.out).mono ?_; rintro e1 w2 ⟨rfl, hb2⟩; rw [HE.out]))
  go_ret
  exact ⟨rfl, by (repeat (first | assumption | exact Below.refl _ _ | refine b_alloc ?_ _ | refine Below.drew ?_ | refine b_drewN ?_ _ | refine Below.setCell ?_ (by first | omega | (simp; done) | (simp; omega)) _ | refine b_call (by assumption) ?_))⟩
set_option maxHeartbeats 1000000 in
theorem passError_ok (l : Ln) (h : l.Ok) (a b : Option Addr) (ca cb : Nat) (ws ts : List Int) (hlt : Len ts.length) (w : World) (hx : IntsAt w a ws) (hy : IntsAt w b ts) (he : wordsErr l ws = 0) :
    Calls Try.prog 63 #[l.val, .slice a ws.length ca, .slice b ts.length cb] w (Ret w (.int .i64 (if ts.length ≤ 60 then tErr ts else 3))) := by
  have HX := hid hx
  have HY := hid hy
  have HE := hid he
  clear hx hy he
  by_cases hl : ts.length ≤ 60
  · rw [if_pos hl]
    have hl2 : ¬ (60 : Int) < (ts.length : Int) := by omega
    go_enter Try.func63, Try.ntmps63
    go_wp2_with (first | ((go_at_call 25; refine (Check_ok l h _).mono ?_; rintro e w1 ⟨rfl, hb1⟩; obtain ⟨hc1, hf1⟩ := bcell hb1); have hI := hid ((HX.out.alloc _).below hb1)) | (go_at_call 84; refine (wordsError_any l h a ca ws _ hI.out).mono ?_; rintro e1 w2 ⟨rfl, hb2⟩; rw [HE.out]))
    have hB0 : Below w.heap.size w w2 := by (repeat (first | assumption | exact Below.refl _ _ | refine b_alloc ?_ _ | refine Below.drew ?_ | refine b_drewN ?_ _ | refine Below.setCell ?_ (by first | omega | (simp; done) | (simp; omega)) _ | refine b_call (by assumption) ?_))
    clear hb1 hb2 hc1 hf1 hI
    go_loopw [10, 27] (fun _ i wr => ∃ k : Nat, k ≤ ts.length ∧ i = .int .i64 k ∧ (∀ j, j < k → Temp (ts[j]?.getD 0)) ∧ Below w.heap.size w wr) (fun _ i _ => ts.length - (intOf i).toNat)
    case atStart => exact ⟨0, by omega, rfl, fun j hj => by omega, hB0⟩
    case round =>
      obtain ⟨k, hk, rfl, hall, hbr⟩ := hrel
      have HA := hid hall
      clear hall hB0
      by_cases hlt : k < ts.length
      · obtain ⟨b1, off, rfl, hc⟩ := (HY.out.below hbr) k hlt
        by_cases hin : -500 ≤ ts[k] ∧ ts[k] ≤ 1000
        · have hd : decide (-500 ≤ ts[k] ∧ ts[k] ≤ 1000) = true := by simpa using hin
          go_wp2_with (go_at_call 57; refine (isTemp_any _ _).mono ?_; rintro e w1 ⟨rfl, rfl⟩)
          go_roundw
          case rel => exact ⟨k + 1, by omega, by go_num, (fun j hj => by
            by_cases e : j = k
            · subst e; simpa [hlt, Temp] using hin
            · exact HA.out j (by omega)), hbr⟩
          case measure => simp [intOf]; omega
        · have hd : decide (-500 ≤ ts[k] ∧ ts[k] ≤ 1000) = false := by simpa using hin
          have hE := hid (show tErr ts = 7 from if_neg (tempsOk_not hlt (by simpa [hlt, Temp] using hin)))
          go_wp2_with (go_at_call 57; refine (isTemp_any _ _).mono ?_; rintro e w1 ⟨rfl, rfl⟩)
          go_ret
          exact ⟨by rw [hE.out]; rfl, by (repeat (first | assumption | exact Below.refl _ _ | refine b_alloc ?_ _ | refine Below.drew ?_ | refine b_drewN ?_ _ | refine Below.setCell ?_ (by first | omega | (simp; done) | (simp; omega)) _ | refine b_call (by assumption) ?_))⟩
      · obtain rfl : k = ts.length := by omega
        have hE := hid (show tErr ts = 0 from if_pos (tempsOk_step HA.out))
        go_wp2
        go_ret
        exact ⟨by rw [hE.out]; rfl, by (repeat (first | assumption | exact Below.refl _ _ | refine b_alloc ?_ _ | refine Below.drew ?_ | refine b_drewN ?_ _ | refine Below.setCell ?_ (by first | omega | (simp; done) | (simp; omega)) _ | refine b_call (by assumption) ?_))⟩
  · rw [if_neg hl]
    have hl2 : (60 : Int) < (ts.length : Int) := by omega
    go_enter Try.func63, Try.ntmps63
    go_wp2_with (first | ((go_at_call 25; refine (Check_ok l h _).mono ?_; rintro e w1 ⟨rfl, hb1⟩; obtain ⟨hc1, hf1⟩ := bcell hb1); have hI := hid ((HX.out.alloc _).below hb1)) | (go_at_call 84; refine (wordsError_any l h a ca ws _ hI.out).mono ?_; rintro e1 w2 ⟨rfl, hb2⟩; rw [HE.out]))
    go_ret
    exact ⟨rfl, by (repeat (first | assumption | exact Below.refl _ _ | refine b_alloc ?_ _ | refine Below.drew ?_ | refine b_drewN ?_ _ | refine Below.setCell ?_ (by first | omega | (simp; done) | (simp; omega)) _ | refine b_call (by assumption) ?_))⟩
theorem passError_any (l : Ln) (a b : Option Addr) (ca cb : Nat) (ws ts : List Int) (hlt : Len ts.length) (w : World) (hx : IntsAt w a ws) (hy : IntsAt w b ts) :
    Calls Try.prog 63 #[l.val, .slice a ws.length ca, .slice b ts.length cb] w (Ret w (.int .i64 (passErr l ws ts))) := by
  unfold passErr
  by_cases h : l.Ok
  · rw [if_pos h]
    by_cases he : wordsErr l ws = 0
    · rw [if_pos he]; exact passError_ok l h a b ca cb ws ts hlt w hx hy he
    · rw [if_neg he]; exact passError_words l h a b ca cb ws ts w hx _ rfl he
  · rw [if_neg h]; exact passError_no l h a b ca cb ws ts w
end Go.Proofs.Ytggkhddficmnfaa
