/-
  The law LineBack, walked, for any line, words and temperature: given that Awake answers true.
-/
import Derived.Test.YtggkhddficmnfaaBackLaw
namespace Go.Proofs.Ytggkhddficmnfaa
open Go.RowKit
set_option linter.unusedVariables false
set_option linter.unusedSimpArgs false

set_option maxRecDepth 100000 in
set_option maxHeartbeats 1000000 in
theorem back_row (hA : ∀ W, Calls Try.prog 22 #[] W (Ret W (.bool true))) (w : World) (l : Ln) (a : Option Addr) (ca : Nat) (ws : List Int) (hlw : Len ws.length) (hx : IntsAt w a ws) (t : Int) :
    Calls Try.prog 13 #[l.val, .slice a ws.length ca, .int .i64 t] w fun e w' => e = .returned (.bool true) ∧ Below w.heap.size w w' := by
  have hS := fun W => Shift_any l t W
  unfold Ln.shiftV at hS
  by_cases h : l.Ok ∧ Temp t
  · rw [if_pos h] at hS
    obtain ⟨s, lost, hS, hlost⟩ : ∃ s lost, (∀ W, Calls Try.prog 23 #[l.val, .int .i64 t] W (Ret W (.tuple #[.int .i64 s, .bool lost, .int .i64 0]))) ∧ l.rL t = lost := by
      cases hs : l.shift t with
      | none => rw [hs] at hS; exact ⟨_, _, hS, by unfold Ln.rL; rw [hs]; rfl⟩
      | some s => rw [hs] at hS; exact ⟨_, _, hS, by unfold Ln.rL; rw [hs]; rfl⟩
    obtain ⟨h, ht⟩ := h
    have hb := h.beats
    have hb1 := h.beats1
    by_cases h60 : l.W * l.B ≤ 60
    · obtain ⟨lw, lb, lp, ld, ls, ln⟩ := l
      obtain ⟨h1, h2, _⟩ := id h
      simp only at h1 h2 hb hb1 h60
      obtain ⟨m, rfl⟩ : ∃ m : Nat, lw = (m : Int) := ⟨lw.toNat, by omega⟩
      obtain ⟨n, rfl⟩ : ∃ n : Nat, lb = (n : Int) := ⟨lb.toNat, by omega⟩
      obtain ⟨M, hM⟩ : ∃ M, m * n = M := ⟨_, rfl⟩
      have hMi : (m : Int) * (n : Int) = (M : Int) := by rw [← hM]; simp
      have hP := fun W b cb => Pass_law ⟨m, n, lp, ld, ls, ln⟩ a b ca cb ws (List.replicate M t) (by rw [List.length_replicate]; omega) W
      rw [List.length_replicate] at hP
      refine back_core hA m n M lp ld ls ln hM (by omega) (by omega) a ca ws hlw t s lost _ _ _ ?_ hS hP w hx
      by_cases hpe : passErr ⟨m, n, lp, ld, ls, ln⟩ ws (List.replicate M t) = 0
      · refine .inr ?_
        unfold passXs passAt
        rw [if_pos hpe, if_pos hpe]
        unfold passOut
        cases lost with
        | true =>
          refine .inl ⟨hpe, rfl, ?_⟩
          have hf : firstLost ⟨m, n, lp, ld, ls, ln⟩ (List.replicate M t) = some 0 := by
            unfold firstLost
            rw [List.length_replicate]
            obtain ⟨k, rfl⟩ : ∃ k, M = k + 1 := ⟨M - 1, by omega⟩
            rw [List.range_succ_eq_map, List.find?_cons_of_pos]
            simp [List.replicate_succ, hlost]
          rw [hf]; rfl
        | false =>
          refine .inr ⟨hpe, rfl, ?_, ?_⟩
          all_goals
            have hf : firstLost ⟨m, n, lp, ld, ls, ln⟩ (List.replicate M t) = none := by
              unfold firstLost
              rw [List.find?_eq_none]
              intro k hk
              have hk' : k < M := by simpa using hk
              rw [List.getElem?_replicate, if_pos hk']
              simp [hlost]
            rw [hf]
          obtain ⟨_, g1, g2, _⟩ := passErr_zero hpe
          simp only at g1 g2
          have hlen : ws.length = m := by omega
          have hpl : (pulsesFrom ws n).length = M := by rw [pulsesFrom_len, hlen, hM]
          simp only [Int.toNat_natCast, List.length_replicate]
          rw [rounds_same _ _ _ (by omega) _ (by rw [sumS_same _ _ _ _ (Nat.le_refl _), hpl]; exact Int.mul_emod_right _ _)]
          rw [← hlen]
          refine joined_pulses (fun x hx => ?_)
          have := g2 x hx
          rw [pw_nat, Int.toNat_natCast] at this
          omega
      · refine .inl ⟨hpe, ?_⟩
        unfold passXs; rw [if_neg hpe]
    · exact back_short hA l a ca ws.length t s 0 lost (.inr ⟨rfl, by omega, hb.2⟩) hS w
  · rw [if_neg h] at hS
    exact back_short hA l a ca ws.length t 0 7 false (.inl (by omega)) hS w
end Go.Proofs.Ytggkhddficmnfaa
