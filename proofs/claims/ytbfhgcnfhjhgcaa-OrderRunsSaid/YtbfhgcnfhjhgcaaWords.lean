/-
  isWord, isAddress, isTime, isOrder; orderOf; Encode, Decode, Signed; and the reference's.
-/
import Derived.Test.YtbfhgcnfhjhgcaaGInts
namespace Go.Proofs.Ytbfhgcnfhjhgcaa
open Go.RowKit
set_option linter.unusedVariables false
set_option linter.unusedSimpArgs false

theorem ints1' (W : World) (x : Int) (n : Nat) (h : n = W.heap.size) : IntsAt (W.alloc (.cells #[.int .i64 x] 3)) (some ⟨n, 0, none⟩) [x] := by
  subst h
  intro j hj
  match j, hj with
  | 0, _ => exact ⟨_, 0, rfl, (Cel.new W #[.int .i64 x] 3 0 _ rfl).1⟩
theorem ints3' (W : World) (x y z : Int) (n : Nat) (h : n = W.heap.size) : IntsAt (W.alloc (.cells #[.int .i64 x, .int .i64 y, .int .i64 z] 3)) (some ⟨n, 0, none⟩) [x, y, z] := by
  subst h
  intro j hj
  match j, hj with
  | 0, _ => exact ⟨_, 0, rfl, (Cel.new W #[.int .i64 x, .int .i64 y, .int .i64 z] 3 0 _ rfl).1⟩
  | 1, _ => exact ⟨_, 0, rfl, (Cel.new W #[.int .i64 x, .int .i64 y, .int .i64 z] 3 1 _ rfl).1⟩
  | 2, _ => exact ⟨_, 0, rfl, (Cel.new W #[.int .i64 x, .int .i64 y, .int .i64 z] 3 2 _ rfl).1⟩
theorem out1_any (lo hi x : Int) (a : Option Addr) (c : Nat) (w : World) (hx : IntsAt w a [x]) :
    Calls Try.prog 52 #[.int .i64 lo, .int .i64 hi, .slice a 1 c] w (Ret w (.int .i64 (if lo ≤ x ∧ x ≤ hi then -1 else 0))) := by
  have h := outside_any lo hi a c [x] (by unfold Len; simp) w hx
  have e : outOf lo hi [x] = if lo ≤ x ∧ x ≤ hi then -1 else 0 := by
    split
    · rename_i g; exact outOf_none (fun y hy => by rcases List.mem_singleton.1 hy with rfl; exact g)
    · rename_i g
      exact outOf_some (k := 0) (by simp) (by
        cases hq : isOut lo hi ([x][0]?.getD 0) with
        | true => rfl
        | false => exact absurd (isOut_no.1 hq) (by simpa using g)) (fun j hj => by omega)
  rw [e] at h
  exact h
theorem out3_ok (lo hi x y z : Int) (hk : (lo ≤ x ∧ x ≤ hi) ∧ (lo ≤ y ∧ y ≤ hi) ∧ lo ≤ z ∧ z ≤ hi) (a : Option Addr) (c : Nat) (w : World) (hx : IntsAt w a [x, y, z]) :
    Calls Try.prog 52 #[.int .i64 lo, .int .i64 hi, .slice a 3 c] w (Ret w (.int .i64 (-1))) := by
  have h := outside_any lo hi a c [x, y, z] (by unfold Len; simp) w hx
  rw [outOf_none (fun v hv => by simp at hv; rcases hv with rfl | rfl | rfl <;> simp [hk])] at h
  exact h
theorem out3_no (lo hi x y z : Int) (hk : ¬ ((lo ≤ x ∧ x ≤ hi) ∧ (lo ≤ y ∧ y ≤ hi) ∧ lo ≤ z ∧ z ≤ hi)) (a : Option Addr) (c : Nat) (w : World) (hx : IntsAt w a [x, y, z]) :
    Calls Try.prog 52 #[.int .i64 lo, .int .i64 hi, .slice a 3 c] w fun e w' => ∃ q : Int, 0 ≤ q ∧ e = .returned (.int .i64 q) ∧ Below w.heap.size w w' := by
  have h := outside_any lo hi a c [x, y, z] (by unfold Len; simp) w hx
  refine h.mono ?_
  rintro e w' ⟨rfl, hb⟩
  refine ⟨_, ?_, rfl, hb⟩
  rcases outOf_cases lo hi [x, y, z] with ⟨_, h2⟩ | ⟨h1, _⟩
  · exact absurd ⟨h2 x (by simp), h2 y (by simp), h2 z (by simp)⟩ hk
  · exact h1

set_option maxHeartbeats 400000 in
theorem isWord_any (x : Int) (w : World) : Calls Try.prog 43 #[.int .i64 x] w (Ret w (.bool (decide (Wd x)))) := by
  by_cases h : 0 ≤ x ∧ x ≤ 16777215
  all_goals
    go_enter Try.func43, Try.ntmps43
    go_wp2_with (go_at_call 52; refine (out1_any _ _ x _ _ _ (ints1' _ _ _ (by simp))).mono ?_; rintro e w1 ⟨rfl, hb1⟩; have HB1 := hid (show Below w.heap.size w w1 from b_call hb1 (by (repeat (first | assumption | exact Below.refl _ _ | refine b_alloc ?_ _ | refine Below.drew ?_ | refine b_drewN ?_ _ | refine Below.setCell ?_ (by first | omega | (simp; done) | (simp; omega)) _ | refine b_call (by assumption) ?_)))); clear hb1; first | rw [if_pos h] | rw [if_neg h])
    go_ret
    exact ⟨ret_bool (by simp [Wd, h] <;> omega), HB1.out⟩
set_option maxHeartbeats 400000 in
theorem isAddress_any (x : Int) (w : World) : Calls Try.prog 57 #[.int .i64 x] w (Ret w (.bool (decide (Ad x)))) := by
  by_cases h : 0 ≤ x ∧ x ≤ 127
  all_goals
    go_enter Try.func57, Try.ntmps57
    go_wp2_with (go_at_call 52; refine (out1_any _ _ x _ _ _ (ints1' _ _ _ (by simp))).mono ?_; rintro e w1 ⟨rfl, hb1⟩; have HB1 := hid (show Below w.heap.size w w1 from b_call hb1 (by (repeat (first | assumption | exact Below.refl _ _ | refine b_alloc ?_ _ | refine Below.drew ?_ | refine b_drewN ?_ _ | refine Below.setCell ?_ (by first | omega | (simp; done) | (simp; omega)) _ | refine b_call (by assumption) ?_)))); clear hb1; first | rw [if_pos h] | rw [if_neg h])
    go_ret
    exact ⟨ret_bool (by simp [Ad, h] <;> omega), HB1.out⟩
abbrev Tm (n : Int) : Prop := 0 ≤ n ∧ n ≤ 1000000000
set_option maxHeartbeats 400000 in
theorem isTime_any (x : Int) (w : World) : Calls Try.prog 48 #[.int .i64 x] w (Ret w (.bool (decide (Tm x)))) := by
  by_cases h : 0 ≤ x ∧ x ≤ 1000000000
  all_goals
    go_enter Try.func48, Try.ntmps48
    go_wp2_with (go_at_call 52; refine (out1_any _ _ x _ _ _ (ints1' _ _ _ (by simp))).mono ?_; rintro e w1 ⟨rfl, hb1⟩; have HB1 := hid (show Below w.heap.size w w1 from b_call hb1 (by (repeat (first | assumption | exact Below.refl _ _ | refine b_alloc ?_ _ | refine Below.drew ?_ | refine b_drewN ?_ _ | refine Below.setCell ?_ (by first | omega | (simp; done) | (simp; omega)) _ | refine b_call (by assumption) ?_)))); clear hb1; first | rw [if_pos h] | rw [if_neg h])
    go_ret
    exact ⟨ret_bool (by simp [Tm, h] <;> omega), HB1.out⟩

/-- An order lies in block b. -/
abbrev OdAt (b : Nat) (o : Od) (W : World) : Prop := W.cell? ⟨b, 0, none⟩ = some (.int .i64 o.op) ∧ W.cell? ⟨b, 1, none⟩ = some (.int .i64 o.fr) ∧ W.cell? ⟨b, 2, none⟩ = some (.int .i64 o.to) ∧ W.cell? ⟨b, 3, none⟩ = some (.int .i64 o.nx)
theorem odAt_new (w : World) (o : Od) : OdAt w.heap.size o (w.alloc (.cells #[.int .i64 o.op, .int .i64 o.fr, .int .i64 o.to, .int .i64 o.nx] 23)) := by unfold OdAt; simp [go_sem]
theorem odAt_call {b : Nat} {o : Od} {W W' : World} (h : OdAt b o W) (hb : Below W.heap.size W W') : OdAt b o W' := ⟨cell_later hb h.1, cell_later hb h.2.1, cell_later hb h.2.2.1, cell_later hb h.2.2.2⟩
set_option maxHeartbeats 1000000 in
theorem isOrder_any (o : Od) (w : World) : Calls Try.prog 40 #[o.val] w (Ret w (.bool (decide o.Ok))) := by
  have hO := odAt_new w o
  have M0 := hid trivial
  obtain ⟨op, fr, to, nx⟩ := o
  by_cases h : 0 ≤ op ∧ op ≤ 7
  · by_cases h3 : (0 ≤ fr ∧ fr ≤ 127) ∧ (0 ≤ to ∧ to ≤ 127) ∧ 0 ≤ nx ∧ nx ≤ 127
    · have hd : decide (Od.Ok ⟨op, fr, to, nx⟩) = true := by unfold Od.Ok; simp [h, h3]
      rw [hd]
      have HO := hid hO
      have H3 := hid h3
      clear hd hO h3
      go_enter Try.func40, Try.ntmps40
      go_wp2_with (first
        | (have m := M0; go_at_call 52; refine (out1_any _ _ op _ _ _ (ints1' _ _ _ (by simp))).mono ?_; rintro e w1 ⟨rfl, hb1⟩; have HB1 := hid (show Below w.heap.size w w1 from b_call hb1 (by (repeat (first | assumption | exact Below.refl _ _ | refine b_alloc ?_ _ | refine Below.drew ?_ | refine b_drewN ?_ _ | refine Below.setCell ?_ (by first | omega | (simp; done) | (simp; omega)) _ | refine b_call (by assumption) ?_)))); rw [if_pos h]; obtain ⟨d0, d1, d2, d3⟩ := odAt_call HO.out (b_call hb1 (b_alloc (Below.refl _ _) _)); clear hb1 m M0)
        | (go_at_call 52; refine (out3_ok _ _ _ _ _ H3.out _ _ _ (ints3' _ _ _ _ _ (by simp))).mono ?_; rintro e w2 ⟨rfl, hb2⟩; have HB2 := hid (b_call hb2 (b_alloc HB1.out _)); clear hb2))
      go_ret
      exact ⟨rfl, HB2.out⟩
    · have hd : decide (Od.Ok ⟨op, fr, to, nx⟩) = false := by
        rw [decide_eq_false]
        intro g
        exact h3 g.2
      rw [hd]
      have HO := hid hO
      have H3 := hid h3
      clear hd hO h3
      go_enter Try.func40, Try.ntmps40
      go_wp2_with (first
        | (have m := M0; go_at_call 52; refine (out1_any _ _ op _ _ _ (ints1' _ _ _ (by simp))).mono ?_; rintro e w1 ⟨rfl, hb1⟩; have HB1 := hid (show Below w.heap.size w w1 from b_call hb1 (by (repeat (first | assumption | exact Below.refl _ _ | refine b_alloc ?_ _ | refine Below.drew ?_ | refine b_drewN ?_ _ | refine Below.setCell ?_ (by first | omega | (simp; done) | (simp; omega)) _ | refine b_call (by assumption) ?_)))); rw [if_pos h]; obtain ⟨d0, d1, d2, d3⟩ := odAt_call HO.out (b_call hb1 (b_alloc (Below.refl _ _) _)); clear hb1 m M0)
        | (go_at_call 52; refine (out3_no _ _ _ _ _ H3.out _ _ _ (ints3' _ _ _ _ _ (by simp))).mono ?_; rintro e w2 ⟨q, hq, rfl, hb2⟩; have HB2 := hid (b_call hb2 (b_alloc HB1.out _)); clear hb2))
      go_ret
      exact ⟨ret_bool (by simp; omega), HB2.out⟩
  · have hd : decide (Od.Ok ⟨op, fr, to, nx⟩) = false := by
      rw [decide_eq_false]
      intro g
      exact h g.1
    rw [hd]
    have HO := hid hO
    clear hd hO
    go_enter Try.func40, Try.ntmps40
    go_wp2_with (go_at_call 52; refine (out1_any _ _ op _ _ _ (ints1' _ _ _ (by simp))).mono ?_; rintro e w1 ⟨rfl, hb1⟩; have HB1 := hid (show Below w.heap.size w w1 from b_call hb1 (by (repeat (first | assumption | exact Below.refl _ _ | refine b_alloc ?_ _ | refine Below.drew ?_ | refine b_drewN ?_ _ | refine Below.setCell ?_ (by first | omega | (simp; done) | (simp; omega)) _ | refine b_call (by assumption) ?_)))); rw [if_neg h]; clear hb1)
    go_ret
    exact ⟨rfl, HB1.out⟩
end Go.Proofs.Ytbfhgcnfhjhgcaa
