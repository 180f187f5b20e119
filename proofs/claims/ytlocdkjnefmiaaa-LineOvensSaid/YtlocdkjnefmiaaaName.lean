/-
  Name, of the program and of the reference.
-/
import Derived.Test.YtlocdkjnefmiaaaGSmall
namespace Go.Proofs.Ytlocdkjnefmiaaa
open Go.RowKit
set_option linter.unusedVariables false
set_option linter.unusedSimpArgs false

/-- Byte k of a string. -/
def bt (s : ByteArray) (k : Nat) : Int := ((s.data.toList.getD k 0).toNat : Int)
theorem bt_eq (s : ByteArray) (k : Nat) (h : k < s.size) : ((s[k]'h).toNat : Int) = bt s k := by
  obtain ⟨⟨l⟩⟩ := s
  have hl : k < l.length := h
  have e : (ByteArray.mk ⟨l⟩)[k]'h = l.getD k 0 := by
    simp only [List.getD, List.getElem?_eq_getElem hl, Option.getD_some]
    rfl
  simp [bt, e]
abbrev low (c : Int) : Prop := 97 ≤ c ∧ c ≤ 122
abbrev dig (c : Int) : Prop := 48 ≤ c ∧ c ≤ 57
/-- What a name is. -/
def NameOk (s : ByteArray) : Prop := 1 ≤ s.size ∧ s.size ≤ 20 ∧ low (bt s 0) ∧ bt s (s.size - 1) ≠ 95 ∧ ∀ k, k < s.size → low (bt s k) ∨ dig (bt s k) ∨ bt s k = 95
instance (s : ByteArray) : Decidable (NameOk s) := by unfold NameOk; infer_instance

set_option maxHeartbeats 400000 in
theorem isLetter_any (c : Int) (w : World) : Calls Try.prog 54 #[.int .u8 c] w fun e w' => e = .returned (.bool (decide (low c))) ∧ w = w' := by
  go_enter Try.func54, Try.ntmps54
  go_wp2
  all_goals (go_ret; exact ⟨ret_bool (by simp [*] <;> omega), rfl⟩)
set_option maxHeartbeats 400000 in
theorem isDigit_any (c : Int) (w : World) : Calls Try.prog 55 #[.int .u8 c] w fun e w' => e = .returned (.bool (decide (dig c))) ∧ w = w' := by
  go_enter Try.func55, Try.ntmps55
  go_wp2
  all_goals (go_ret; exact ⟨ret_bool (by simp [*] <;> omega), rfl⟩)

set_option maxHeartbeats 2000000 in
theorem Name_any (s : ByteArray) (w : World) : Calls Try.prog 20 #[.string s] w (Ret w (.bool (decide (NameOk s)))) := by
  go_enter Try.func20, Try.ntmps20
  by_cases hs : 1 ≤ s.size ∧ s.size ≤ 20
  · have hd : decide ((1 : Int) ≤ s.size ∧ (s.size : Int) ≤ 20) = true := by simpa using (by omega : (1 : Int) ≤ s.size ∧ (s.size : Int) ≤ 20)
    have hb0 := bt_eq s 0 (by omega)
    have hb1 := bt_eq s (s.size - 1) (by omega)
    by_cases h0 : low (bt s 0)
    case neg =>
      have hd0 : decide (low (bt s 0)) = false := by simpa using h0
      go_wp2_with (first | (go_at_call 53; refine (within_any _ _ _ _).mono ?_; rintro e w1 ⟨rfl, rfl⟩) | (go_at_call 54; refine (isLetter_any _ _).mono ?_; rintro e w1 ⟨rfl, rfl⟩))
      go_ret
      exact ⟨ret_bool (by simp only [NameOk]; exact (decide_eq_false (fun h => h0 h.2.2.1)).symm), by (repeat (first | assumption | exact Below.refl _ _ | refine b_alloc ?_ _ | refine Below.drew ?_ | refine b_drewN ?_ _ | refine Below.setCell ?_ (by first | omega | (simp; done) | (simp; omega)) _ | refine b_call (by assumption) ?_))⟩
    have hd0 : decide (low (bt s 0)) = true := by simpa using h0
    by_cases h9 : bt s (s.size - 1) = 95
    case pos =>
      go_wp2_with (first | (go_at_call 53; refine (within_any _ _ _ _).mono ?_; rintro e w1 ⟨rfl, rfl⟩) | (go_at_call 54; refine (isLetter_any _ _).mono ?_; rintro e w1 ⟨rfl, rfl⟩))
      go_ret
      exact ⟨ret_bool (by simp only [NameOk]; exact (decide_eq_false (fun h => h.2.2.2.1 h9)).symm), by (repeat (first | assumption | exact Below.refl _ _ | refine b_alloc ?_ _ | refine Below.drew ?_ | refine b_drewN ?_ _ | refine Below.setCell ?_ (by first | omega | (simp; done) | (simp; omega)) _ | refine b_call (by assumption) ?_))⟩
    have hd9 : (bt s (s.size - 1) == 95) = false := by simpa using h9
    go_wp2_with (first | (go_at_call 53; refine (within_any _ _ _ _).mono ?_; rintro e w1 ⟨rfl, rfl⟩) | (go_at_call 54; refine (isLetter_any _ _).mono ?_; rintro e w1 ⟨rfl, rfl⟩))
    go_loop [3, 4, 25] (fun _ _ i => ∃ k : Nat, k ≤ s.size ∧ i = .int .i64 k ∧ ∀ j, j < k → low (bt s j) ∨ dig (bt s j) ∨ bt s j = 95) (fun _ _ i => s.size - (intOf i).toNat)
    case atStart => exact ⟨0, by omega, rfl, fun j hj => by omega⟩
    case round =>
      obtain ⟨k, hk, rfl, hall⟩ := hrel
      have HA := hid hall
      clear hall
      by_cases hlt : k < s.size
      · have hbk := bt_eq s k hlt
        by_cases g1 : low (bt s k)
        · have HG := hid g1
          have hd1 : decide (low (bt s k)) = true := by simpa using g1
          go_wp2_with (first | (go_at_call 54; refine (isLetter_any _ _).mono ?_; rintro e w1 ⟨rfl, rfl⟩) | (go_at_call 55; refine (isDigit_any _ _).mono ?_; rintro e w1 ⟨rfl, rfl⟩))
          go_round
          case rel => exact ⟨k + 1, by omega, by go_num, fun j hj => by
            by_cases e : j = k
            · subst e; first | exact Or.inl HG.out | exact Or.inr (Or.inl HG.out) | exact Or.inr (Or.inr HG.out)
            · exact HA.out j (by omega)⟩
          case measure => simp [intOf]; omega
        have hd1 : decide (low (bt s k)) = false := by simpa using g1
        by_cases g2 : dig (bt s k)
        · have HG := hid g2
          have hd2 : decide (dig (bt s k)) = true := by simpa using g2
          go_wp2_with (first | (go_at_call 54; refine (isLetter_any _ _).mono ?_; rintro e w1 ⟨rfl, rfl⟩) | (go_at_call 55; refine (isDigit_any _ _).mono ?_; rintro e w1 ⟨rfl, rfl⟩))
          go_round
          case rel => exact ⟨k + 1, by omega, by go_num, fun j hj => by
            by_cases e : j = k
            · subst e; first | exact Or.inl HG.out | exact Or.inr (Or.inl HG.out) | exact Or.inr (Or.inr HG.out)
            · exact HA.out j (by omega)⟩
          case measure => simp [intOf]; omega
        have hd2 : decide (dig (bt s k)) = false := by simpa using g2
        by_cases g3 : bt s k = 95
        · have HG := hid g3
          go_wp2_with (first | (go_at_call 54; refine (isLetter_any _ _).mono ?_; rintro e w1 ⟨rfl, rfl⟩) | (go_at_call 55; refine (isDigit_any _ _).mono ?_; rintro e w1 ⟨rfl, rfl⟩))
          go_round
          case rel => exact ⟨k + 1, by omega, by go_num, fun j hj => by
            by_cases e : j = k
            · subst e; first | exact Or.inl HG.out | exact Or.inr (Or.inl HG.out) | exact Or.inr (Or.inr HG.out)
            · exact HA.out j (by omega)⟩
          case measure => simp [intOf]; omega
        · have HG := hid g3
          have hd3 : (bt s k == 95) = false := by simpa using g3
          have hd4 : (bt s k != 95) = true := by simpa using g3
          go_wp2_with (first | (go_at_call 54; refine (isLetter_any _ _).mono ?_; rintro e w1 ⟨rfl, rfl⟩) | (go_at_call 55; refine (isDigit_any _ _).mono ?_; rintro e w1 ⟨rfl, rfl⟩))
          go_ret
          exact ⟨ret_bool (by simp only [NameOk]; exact (decide_eq_false (fun h => (h.2.2.2.2 k hlt).elim g1 fun h => h.elim g2 HG.out)).symm), by (repeat (first | assumption | exact Below.refl _ _ | refine b_alloc ?_ _ | refine Below.drew ?_ | refine b_drewN ?_ _ | refine Below.setCell ?_ (by first | omega | (simp; done) | (simp; omega)) _ | refine b_call (by assumption) ?_))⟩
      · obtain rfl : k = s.size := by omega
        go_wp2
        go_ret
        exact ⟨ret_bool (by simp only [NameOk]; exact (decide_eq_true ⟨hs.1, hs.2, h0, h9, HA.out⟩).symm), by (repeat (first | assumption | exact Below.refl _ _ | refine b_alloc ?_ _ | refine Below.drew ?_ | refine b_drewN ?_ _ | refine Below.setCell ?_ (by first | omega | (simp; done) | (simp; omega)) _ | refine b_call (by assumption) ?_))⟩
  · have hd : decide ((1 : Int) ≤ s.size ∧ (s.size : Int) ≤ 20) = false := by simpa using (by omega : ¬ ((1 : Int) ≤ s.size ∧ (s.size : Int) ≤ 20))
    go_wp2_with (go_at_call 53; refine (within_any _ _ _ _).mono ?_; rintro e w1 ⟨rfl, rfl⟩)
    go_ret
    exact ⟨ret_bool (by simp only [NameOk]; exact (decide_eq_false (fun h => hs ⟨h.1, h.2.1⟩)).symm), by (repeat (first | assumption | exact Below.refl _ _ | refine b_alloc ?_ _ | refine Below.drew ?_ | refine b_drewN ?_ _ | refine Below.setCell ?_ (by first | omega | (simp; done) | (simp; omega)) _ | refine b_call (by assumption) ?_))⟩

set_option maxHeartbeats 4000000 in
theorem refName_any (s : ByteArray) (w : World) : Calls Try.prog 21 #[.string s] w (Ret w (.bool (decide (NameOk s)))) := by
  go_enter Try.func21, Try.ntmps21
  by_cases hs : 1 ≤ s.size ∧ s.size ≤ 20
  · have hd : decide ((1 : Int) ≤ s.size ∧ (s.size : Int) ≤ 20) = true := by simpa using (by omega : (1 : Int) ≤ s.size ∧ (s.size : Int) ≤ 20)
    have hb1 := bt_eq s (s.size - 1) (by omega)
    by_cases h9 : bt s (s.size - 1) = 95
    case pos =>
      go_wp2_with (go_at_call 56; refine (in_any _ _ _ _).mono ?_; rintro e w1 ⟨rfl, rfl⟩)
      go_ret
      exact ⟨ret_bool (by simp only [NameOk]; exact (decide_eq_false (fun h => h.2.2.2.1 h9)).symm), by (repeat (first | assumption | exact Below.refl _ _ | refine b_alloc ?_ _ | refine Below.drew ?_ | refine b_drewN ?_ _ | refine Below.setCell ?_ (by first | omega | (simp; done) | (simp; omega)) _ | refine b_call (by assumption) ?_))⟩
    have hd9 : (bt s (s.size - 1) == 95) = false := by simpa using h9
    go_wp2_with (go_at_call 56; refine (in_any _ _ _ _).mono ?_; rintro e w1 ⟨rfl, rfl⟩)
    go_loopw [3] (fun i wr => ∃ k : Nat, k ≤ s.size ∧ i = .int .i64 k ∧ (1 ≤ k → low (bt s 0)) ∧ (∀ j, j < k → low (bt s j) ∨ dig (bt s j) ∨ bt s j = 95) ∧ Below w.heap.size w wr) (fun i _ => s.size - (intOf i).toNat)
    case atStart => exact ⟨0, by omega, rfl, fun h => by omega, fun j hj => by omega, by (repeat (first | assumption | exact Below.refl _ _ | refine b_alloc ?_ _ | refine Below.drew ?_ | refine b_drewN ?_ _ | refine Below.setCell ?_ (by first | omega | (simp; done) | (simp; omega)) _ | refine b_call (by assumption) ?_))⟩
    case round =>
      obtain ⟨k, hk, rfl, hz, hall, hbr⟩ := hrel
      have HA := hid hall
      have HZ := hid hz
      clear hall hz
      by_cases hlt : k < s.size
      · have hbk := bt_eq s k hlt
        rcases (by omega : bt s k < 48 ∨ (48 ≤ bt s k ∧ bt s k ≤ 57) ∨ (58 ≤ bt s k ∧ bt s k ≤ 94) ∨ bt s k = 95 ∨ bt s k = 96 ∨ (97 ≤ bt s k ∧ bt s k ≤ 122) ∨ 123 ≤ bt s k) with hc | hc | hc | hc | hc | hc | hc
        · have t1 : decide (97 ≤ bt s k) = false := decide_eq_false (by omega)
          have t2 : decide (bt s k ≤ 122) = true := decide_eq_true (by omega)
          have t3 : decide (48 ≤ bt s k) = false := decide_eq_false (by omega)
          have t4 : decide (bt s k ≤ 57) = true := decide_eq_true (by omega)
          have t5 : (bt s k == 95) = false := by simpa using (by omega : ¬ bt s k = 95)
          have HC := hid hc
          clear hc
          go_wp2
          go_quiet (fail)
          go_wp2
          all_goals
            go_ret
            exact ⟨ret_bool (by simp only [NameOk]; exact (decide_eq_false (fun h => by have := h.2.2.2.2 k hlt; have := HC.out; omega)).symm), by (repeat (first | assumption | exact Below.refl _ _ | refine b_alloc ?_ _ | refine Below.drew ?_ | refine b_drewN ?_ _ | refine Below.setCell ?_ (by first | omega | (simp; done) | (simp; omega)) _ | refine b_call (by assumption) ?_))⟩
        · have t1 : decide (97 ≤ bt s k) = false := decide_eq_false (by omega)
          have t2 : decide (bt s k ≤ 122) = true := decide_eq_true (by omega)
          have t3 : decide (48 ≤ bt s k) = true := decide_eq_true (by omega)
          have t4 : decide (bt s k ≤ 57) = true := decide_eq_true (by omega)
          have t5 : (bt s k == 95) = false := by simpa using (by omega : ¬ bt s k = 95)
          have HC := hid hc
          by_cases hk0 : k = 0
          · subst hk0
            go_wp2
            go_quiet (fail)
            go_wp2
            go_ret
            exact ⟨ret_bool (by simp only [NameOk]; exact (decide_eq_false (fun h => by have := h.2.2.1; have := HC.out; omega)).symm), by (repeat (first | assumption | exact Below.refl _ _ | refine b_alloc ?_ _ | refine Below.drew ?_ | refine b_drewN ?_ _ | refine Below.setCell ?_ (by first | omega | (simp; done) | (simp; omega)) _ | refine b_call (by assumption) ?_))⟩
          have hk1 : ((k : Int) == 0) = false := by simpa using hk0
          have HG := hid (show low (bt s k) ∨ dig (bt s k) ∨ bt s k = 95 by omega)
          clear hc
          go_wp2
          go_quiet (fail)
          go_wp2
          go_roundw
          case rel => exact ⟨k + 1, by omega, by go_num, (fun _ => HZ.out (by omega)), (fun j hj => by
            by_cases e : j = k
            · subst e; exact HG.out
            · exact HA.out j (by omega)), by (repeat (first | assumption | exact Below.refl _ _ | refine b_alloc ?_ _ | refine Below.drew ?_ | refine b_drewN ?_ _ | refine Below.setCell ?_ (by first | omega | (simp; done) | (simp; omega)) _ | refine b_call (by assumption) ?_))⟩
          case measure => simp [intOf]; omega
        · have t1 : decide (97 ≤ bt s k) = false := decide_eq_false (by omega)
          have t2 : decide (bt s k ≤ 122) = true := decide_eq_true (by omega)
          have t3 : decide (48 ≤ bt s k) = true := decide_eq_true (by omega)
          have t4 : decide (bt s k ≤ 57) = false := decide_eq_false (by omega)
          have t5 : (bt s k == 95) = false := by simpa using (by omega : ¬ bt s k = 95)
          have HC := hid hc
          clear hc
          go_wp2
          go_quiet (fail)
          go_wp2
          all_goals
            go_ret
            exact ⟨ret_bool (by simp only [NameOk]; exact (decide_eq_false (fun h => by have := h.2.2.2.2 k hlt; have := HC.out; omega)).symm), by (repeat (first | assumption | exact Below.refl _ _ | refine b_alloc ?_ _ | refine Below.drew ?_ | refine b_drewN ?_ _ | refine Below.setCell ?_ (by first | omega | (simp; done) | (simp; omega)) _ | refine b_call (by assumption) ?_))⟩
        · have t1 : decide (97 ≤ bt s k) = false := decide_eq_false (by omega)
          have t2 : decide (bt s k ≤ 122) = true := decide_eq_true (by omega)
          have t3 : decide (48 ≤ bt s k) = true := decide_eq_true (by omega)
          have t4 : decide (bt s k ≤ 57) = false := decide_eq_false (by omega)
          have t5 : (bt s k == 95) = true := by simpa using (by omega : bt s k = 95)
          have HC := hid hc
          by_cases hk0 : k = 0
          · subst hk0
            go_wp2
            go_quiet (fail)
            go_wp2
            go_ret
            exact ⟨ret_bool (by simp only [NameOk]; exact (decide_eq_false (fun h => by have := h.2.2.1; have := HC.out; omega)).symm), by (repeat (first | assumption | exact Below.refl _ _ | refine b_alloc ?_ _ | refine Below.drew ?_ | refine b_drewN ?_ _ | refine Below.setCell ?_ (by first | omega | (simp; done) | (simp; omega)) _ | refine b_call (by assumption) ?_))⟩
          have hk1 : ((k : Int) == 0) = false := by simpa using hk0
          have HG := hid (show low (bt s k) ∨ dig (bt s k) ∨ bt s k = 95 by omega)
          clear hc
          go_wp2
          go_quiet (fail)
          go_wp2
          go_roundw
          case rel => exact ⟨k + 1, by omega, by go_num, (fun _ => HZ.out (by omega)), (fun j hj => by
            by_cases e : j = k
            · subst e; exact HG.out
            · exact HA.out j (by omega)), by (repeat (first | assumption | exact Below.refl _ _ | refine b_alloc ?_ _ | refine Below.drew ?_ | refine b_drewN ?_ _ | refine Below.setCell ?_ (by first | omega | (simp; done) | (simp; omega)) _ | refine b_call (by assumption) ?_))⟩
          case measure => simp [intOf]; omega
        · have t1 : decide (97 ≤ bt s k) = false := decide_eq_false (by omega)
          have t2 : decide (bt s k ≤ 122) = true := decide_eq_true (by omega)
          have t3 : decide (48 ≤ bt s k) = true := decide_eq_true (by omega)
          have t4 : decide (bt s k ≤ 57) = false := decide_eq_false (by omega)
          have t5 : (bt s k == 95) = false := by simpa using (by omega : ¬ bt s k = 95)
          have HC := hid hc
          clear hc
          go_wp2
          go_quiet (fail)
          go_wp2
          all_goals
            go_ret
            exact ⟨ret_bool (by simp only [NameOk]; exact (decide_eq_false (fun h => by have := h.2.2.2.2 k hlt; have := HC.out; omega)).symm), by (repeat (first | assumption | exact Below.refl _ _ | refine b_alloc ?_ _ | refine Below.drew ?_ | refine b_drewN ?_ _ | refine Below.setCell ?_ (by first | omega | (simp; done) | (simp; omega)) _ | refine b_call (by assumption) ?_))⟩
        · have t1 : decide (97 ≤ bt s k) = true := decide_eq_true (by omega)
          have t2 : decide (bt s k ≤ 122) = true := decide_eq_true (by omega)
          have t3 : decide (48 ≤ bt s k) = true := decide_eq_true (by omega)
          have t4 : decide (bt s k ≤ 57) = false := decide_eq_false (by omega)
          have t5 : (bt s k == 95) = false := by simpa using (by omega : ¬ bt s k = 95)
          have HG := hid (show low (bt s k) ∨ dig (bt s k) ∨ bt s k = 95 by omega)
          have HL := hid hc
          clear hc
          go_wp2
          go_quiet (fail)
          go_wp2
          go_roundw
          case rel => exact ⟨k + 1, by omega, by go_num, (fun _ => by
            by_cases e : k = 0
            · subst e; exact HL.out
            · exact HZ.out (by omega)), (fun j hj => by
            by_cases e : j = k
            · subst e; exact HG.out
            · exact HA.out j (by omega)), by (repeat (first | assumption | exact Below.refl _ _ | refine b_alloc ?_ _ | refine Below.drew ?_ | refine b_drewN ?_ _ | refine Below.setCell ?_ (by first | omega | (simp; done) | (simp; omega)) _ | refine b_call (by assumption) ?_))⟩
          case measure => simp [intOf]; omega
        · have t1 : decide (97 ≤ bt s k) = true := decide_eq_true (by omega)
          have t2 : decide (bt s k ≤ 122) = false := decide_eq_false (by omega)
          have t3 : decide (48 ≤ bt s k) = true := decide_eq_true (by omega)
          have t4 : decide (bt s k ≤ 57) = false := decide_eq_false (by omega)
          have t5 : (bt s k == 95) = false := by simpa using (by omega : ¬ bt s k = 95)
          have HC := hid hc
          clear hc
          go_wp2
          go_quiet (fail)
          go_wp2
          all_goals
            go_ret
            exact ⟨ret_bool (by simp only [NameOk]; exact (decide_eq_false (fun h => by have := h.2.2.2.2 k hlt; have := HC.out; omega)).symm), by (repeat (first | assumption | exact Below.refl _ _ | refine b_alloc ?_ _ | refine Below.drew ?_ | refine b_drewN ?_ _ | refine Below.setCell ?_ (by first | omega | (simp; done) | (simp; omega)) _ | refine b_call (by assumption) ?_))⟩
      · obtain rfl : k = s.size := by omega
        go_wp2
        go_ret
        exact ⟨ret_bool (by simp only [NameOk]; exact (decide_eq_true ⟨hs.1, hs.2, HZ.out hs.1, h9, HA.out⟩).symm), by (repeat (first | assumption | exact Below.refl _ _ | refine b_alloc ?_ _ | refine Below.drew ?_ | refine b_drewN ?_ _ | refine Below.setCell ?_ (by first | omega | (simp; done) | (simp; omega)) _ | refine b_call (by assumption) ?_))⟩
  · have hd : decide ((1 : Int) ≤ s.size ∧ (s.size : Int) ≤ 20) = false := by simpa using (by omega : ¬ ((1 : Int) ≤ s.size ∧ (s.size : Int) ≤ 20))
    go_wp2_with (go_at_call 56; refine (in_any _ _ _ _).mono ?_; rintro e w1 ⟨rfl, rfl⟩)
    go_ret
    exact ⟨ret_bool (by simp only [NameOk]; exact (decide_eq_false (fun h => hs ⟨h.1, h.2.1⟩)).symm), by (repeat (first | assumption | exact Below.refl _ _ | refine b_alloc ?_ _ | refine Below.drew ?_ | refine b_drewN ?_ _ | refine Below.setCell ?_ (by first | omega | (simp; done) | (simp; omega)) _ | refine b_call (by assumption) ?_))⟩
end Go.Proofs.Ytlocdkjnefmiaaa
