/-
  The law LineBack, walked: given that Awake answers true.
-/
import Derived.Deep.RegionWith
import Derived.Deep.RegionHeld3
import Derived.Test.YtggkhddficmnfaaLits
import Derived.Test.YtggkhddficmnfaaRotMath
namespace Go.Proofs.Ytggkhddficmnfaa
open Go.RowKit
set_option linter.unusedVariables false
set_option linter.unusedSimpArgs false

theorem rowIntsI {W : World} {base : Nat} {v : Value} {xs : List Int} (h : W.ownsRow base 3 1 v xs.length (xs.map (Value.int .i64))) : ∃ b c, v = .slice b xs.length c ∧ IntsAt W b xs := by
  rcases h.2 with ⟨e, e2⟩ | ⟨g, cap, cur, e, r⟩
  · have hx : xs = [] := by simpa using e2
    subst hx
    exact ⟨none, 0, e, fun j hj => by simp at hj⟩
  · subst e
    exact ⟨_, cap, rfl, intsOfRow h⟩

theorem lnAt_grown {b : Nat} {l : Ln} {W W' : World} {row : Option Nat} (h : LnAt b l W) (hg : W.grownBy W' row) (hne : ∀ r, row = some r → b ≠ r) : LnAt b l W' := by
  have e := hg.block b (lnAt_lt h) (fun e => hne b e.symm rfl)
  have c : ∀ k, W'.cell? ⟨b, k, none⟩ = W.cell? ⟨b, k, none⟩ := fun k => World.cell?_of_block (a := ⟨b, k, none⟩) e
  unfold LnAt at *
  simp only [c]
  exact h

set_option maxRecDepth 100000 in
set_option maxHeartbeats 2000000 in
theorem back_short (hA : ∀ W, Calls Try.prog 22 #[] W (Ret W (.bool true))) (l : Ln) (a : Option Addr) (ca n : Nat) (t s er : Int) (lost : Bool) (hc : er ≠ 0 ∨ (er = 0 ∧ 60 < l.W * l.B ∧ l.W * l.B ≤ 2560))
    (hS : ∀ W, Calls Try.prog 23 #[l.val, .int .i64 t] W (Ret W (.tuple #[.int .i64 s, .bool lost, .int .i64 er]))) (w : World) :
    Calls Try.prog 13 #[l.val, .slice a n ca, .int .i64 t] w fun e w' => e = .returned (.bool true) ∧ Below w.heap.size w w' := by
  have HA := hid hA
  have HS := hid hS
  have hL0 := hid (lnAt_new' l w)
  clear hA hS
  rcases hc with h | ⟨rfl, h1, h2⟩
  all_goals
    go_enter Try.func13, Try.ntmps13
    go_wp2_with (first
      | (go_at_call 23; refine (HS.out _).mono ?_; rintro e w1 ⟨rfl, hb1⟩; have HB1 := hid (show Below w.heap.size w w1 by (repeat (first | assumption | exact Below.refl _ _ | refine b_alloc ?_ _ | refine Below.drew ?_ | refine b_drewN ?_ _ | refine Below.setCell ?_ (by first | omega | (simp; done) | (simp; omega)) _ | refine b_call (by assumption) ?_))); have hL1 := hid (lnAt_call hL0.out hb1); obtain ⟨d0, d1, d2, d3, d4, d5⟩ := hL1.out; clear hb1)
      | (go_at_call 22; refine (HA.out _).mono ?_; rintro e w3 ⟨rfl, hb3⟩; have HB3 := hid (show Below w.heap.size w w3 from b_call hb3 (by have hq := HB1.out; (repeat (first | assumption | exact Below.refl _ _ | refine b_alloc ?_ _ | refine Below.drew ?_ | refine b_drewN ?_ _ | refine Below.setCell ?_ (by first | omega | (simp; done) | (simp; omega)) _ | refine b_call (by assumption) ?_)))); clear hb3))
    go_ret
    exact ⟨rfl, HB3.out⟩

set_option maxRecDepth 100000 in
set_option maxHeartbeats 8000000 in
theorem back_core (hA : ∀ W, Calls Try.prog 22 #[] W (Ret W (.bool true))) (m n M : Nat) (lp ld ls ln : Int) (hM : m * n = M) (hM1 : 1 ≤ M) (hM2 : M ≤ 60) (a : Option Addr) (ca : Nat) (ws : List Int) (hlw : Len ws.length) (t s : Int) (lost : Bool)
    (xs : List Int) (at1 pe : Int) (hc : (pe ≠ 0 ∧ xs = []) ∨ (pe = 0 ∧ lost = true ∧ at1 = 0) ∨ (pe = 0 ∧ lost = false ∧ at1 = -1 ∧ xs = ws))
    (hS : ∀ W, Calls Try.prog 23 #[Ln.val ⟨m, n, lp, ld, ls, ln⟩, .int .i64 t] W (Ret W (.tuple #[.int .i64 s, .bool lost, .int .i64 0])))
    (hP : ∀ W b cb, IntsAt W a ws → IntsAt W b (List.replicate M t) → Calls Try.prog 29 #[Ln.val ⟨m, n, lp, ld, ls, ln⟩, .slice a ws.length ca, .slice b M cb] W (RetL W xs at1 pe)) (w : World) (hx : IntsAt w a ws) :
    Calls Try.prog 13 #[Ln.val ⟨m, n, lp, ld, ls, ln⟩, .slice a ws.length ca, .int .i64 t] w fun e w' => e = .returned (.bool true) ∧ Below w.heap.size w w' := by
  obtain ⟨iI, hiI, hzI0, hzI1, hzI2⟩ := info_parts infoI
  have HA := hid hA
  have HS := hid hS
  have HP := hid hP
  have HX := hid hx
  have HCC := hid hc
  have hL0 := hid (lnAt_new' ⟨m, n, lp, ld, ls, ln⟩ w)
  have hmi : (m : Int) * (n : Int) = (M : Int) := by rw [← hM]; simp
  have HMI := hid hmi
  have w1' : IntKind.i64.wrap ((m : Int) * (n : Int)) = (m : Int) * (n : Int) := IntWalk.i64_in _ (by omega)
  have w2' : (m : Int) * (n : Int) ≤ 60 := by omega
  clear hA hS hP hx hc hM hmi
  go_enter Try.func13, Try.ntmps13
  go_wp2_with (first
    | (go_at_call 23; refine (HS.out _).mono ?_; rintro e w1 ⟨rfl, hb1⟩; have HB1 := hid (show Below w.heap.size w w1 by (repeat (first | assumption | exact Below.refl _ _ | refine b_alloc ?_ _ | refine Below.drew ?_ | refine b_drewN ?_ _ | refine Below.setCell ?_ (by first | omega | (simp; done) | (simp; omega)) _ | refine b_call (by assumption) ?_))); have hL1 := hid (lnAt_call hL0.out hb1); obtain ⟨d0, d1, d2, d3, d4, d5⟩ := hL1.out; clear hb1))
  have hw0 : w1.ownsRow (w.heap.size + 1) 3 1 (.slice none 0 0) 0 ((List.replicate 0 t).map (Value.int .i64)) := ⟨by simp, .inl ⟨rfl, by simp⟩⟩
  go_loopw [10, 11] (fun v i wr => ∃ k : Nat, k ≤ M ∧ i = .int .i64 k ∧ wr.ownsRow (w.heap.size + 1) 3 1 v k ((List.replicate k t).map (Value.int .i64)) ∧ LnAt w.heap.size ⟨m, n, lp, ld, ls, ln⟩ wr ∧ Below w.heap.size w wr) (fun _ i _ => M - (intOf i).toNat)
  case atStart => exact ⟨0, Nat.zero_le _, rfl, hw0, hL1.out, HB1.out⟩
  case round =>
    obtain ⟨k, hk, rfl, hrow, hln, hbr⟩ := hrel
    have HROW := hid hrow
    have HL := hid hln
    clear hrow hw0 d0 d1 d2 d3 d4 d5
    obtain ⟨d0, d1, d2, d3, d4, d5⟩ := hln
    by_cases hlt : k < M
    · have hlt2 : (k : Int) < (m : Int) * (n : Int) := by have := HMI.out; omega
      have hsz := hbr.size
      have hlt3 := lnAt_lt HL.out
      go_wp2_with (at_builtin; refine wpList_append_own _ rfl _ _ 35 rfl (w.heap.size + 1) 3 iI (.int .i64 0) 1 8 Try.underlying35 hiI hzI0 hzI1 hzI2 rfl (by decide) _ _ _ rfl (HROW.out.alloc _) ⟨wr.heap.size, 0, none⟩ 1 1 [.int .i64 t] rfl rfl (cell_one_new _ _ _) (by intro u hu; simp at hu; subst hu; rfl) (by unfold maxLen; omega) (by omega) (by simp; omega) ?_; intro v' w3 hown3 hg3 hnil)
      go_roundw
      case rel =>
        have hg1 := ownsRow_block HROW.out
        refine ⟨k + 1, by omega, by go_num, ?_, ?_, (b_alloc hbr _).grown hg3 (by simp; omega) (fun r e => by have := hg1 r e; omega)⟩
        · rw [List.replicate_succ', List.map_append]; exact hown3
        · exact lnAt_grown (lnAt_call HL.out (b_alloc (Below.refl _ _) _)) hg3 (fun r e => by have := hg1 r e; omega)
      case measure => simp [intOf]; omega
    · obtain rfl : k = M := by omega
      have hlt2 : ¬ (k : Int) < (m : Int) * (n : Int) := by have := HMI.out; omega
      obtain ⟨b, c, rfl, hi⟩ := rowIntsI (xs := List.replicate k t) (by rw [List.length_replicate]; exact HROW.out)
      rw [List.length_replicate]
      have HI := hid hi
      have HB := hid hbr
      clear hi hbr HROW
      rcases HCC.out with ⟨h1, rfl⟩ | ⟨rfl, rfl, rfl⟩ | ⟨rfl, rfl, rfl, rfl⟩
      · go_wp2_with (first
          | (go_at_call 29; refine (HP.out _ _ _ (HX.out.below HB.out) HI.out).mono ?_; rintro e w5 ⟨a5, c5, rfl, hi5, hb5⟩; have HB5 := hid (b_call hb5 HB.out); clear hb5)
          | (go_at_call 22; refine (HA.out _).mono ?_; rintro e w7 ⟨rfl, hb7⟩; have HB7 := hid (show Below w.heap.size w w7 from b_call hb7 (by have hq := HB5.out; (repeat (first | assumption | exact Below.refl _ _ | refine b_alloc ?_ _ | refine Below.drew ?_ | refine b_drewN ?_ _ | refine Below.setCell ?_ (by first | omega | (simp; done) | (simp; omega)) _ | refine b_call (by assumption) ?_)))); clear hb7))
        go_ret
        exact ⟨rfl, HB7.out⟩
      · go_wp2_with (first
          | (go_at_call 29; refine (HP.out _ _ _ (HX.out.below HB.out) HI.out).mono ?_; rintro e w5 ⟨a5, c5, rfl, hi5, hb5⟩; have HB5 := hid (b_call hb5 HB.out); clear hb5)
          | (go_at_call 22; refine (HA.out _).mono ?_; rintro e w7 ⟨rfl, hb7⟩; have HB7 := hid (show Below w.heap.size w w7 from b_call hb7 (by have hq := HB5.out; (repeat (first | assumption | exact Below.refl _ _ | refine b_alloc ?_ _ | refine Below.drew ?_ | refine b_drewN ?_ _ | refine Below.setCell ?_ (by first | omega | (simp; done) | (simp; omega)) _ | refine b_call (by assumption) ?_)))); clear hb7))
        go_ret
        exact ⟨rfl, HB7.out⟩
      · have HINT := hid (show ∀ W c cc, IntsAt W c xs → IntsAt W a xs → Calls Try.prog 31 #[.slice c xs.length cc, .slice a xs.length ca] W (Ret W (.bool true)) from fun W c cc g1 g2 => by
          have := Ints_any c a cc ca xs xs hlw hlw W g1 g2
          simpa using this)
        go_wp2_with (first
          | (go_at_call 29; refine (HP.out _ _ _ (HX.out.below HB.out) HI.out).mono ?_; rintro e w5 ⟨a5, c5, rfl, hi5, hb5⟩; have HI5 := hid hi5; have HB5 := hid (b_call hb5 HB.out); clear hb5 hi5)
          | (go_at_call 31; refine (HINT.out _ _ _ HI5.out (HX.out.below HB5.out)).mono ?_; rintro e w6 ⟨rfl, hb6⟩; have HB6 := hid (show Below w.heap.size w w6 from b_call hb6 (by have hq := HB5.out; (repeat (first | assumption | exact Below.refl _ _ | refine b_alloc ?_ _ | refine Below.drew ?_ | refine b_drewN ?_ _ | refine Below.setCell ?_ (by first | omega | (simp; done) | (simp; omega)) _ | refine b_call (by assumption) ?_)))); clear hb6)
          | (go_at_call 22; refine (HA.out _).mono ?_; rintro e w7 ⟨rfl, hb7⟩; have HB7 := hid (show Below w.heap.size w w7 from b_call hb7 (by have hq := HB6.out; (repeat (first | assumption | exact Below.refl _ _ | refine b_alloc ?_ _ | refine Below.drew ?_ | refine b_drewN ?_ _ | refine Below.setCell ?_ (by first | omega | (simp; done) | (simp; omega)) _ | refine b_call (by assumption) ?_)))); clear hb7))
        go_ret
        exact ⟨rfl, HB7.out⟩
end Go.Proofs.Ytggkhddficmnfaa
