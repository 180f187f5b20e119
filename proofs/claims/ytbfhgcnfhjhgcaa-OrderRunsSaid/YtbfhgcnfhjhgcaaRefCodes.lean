/-
  Decode; the reference's Encode, Decode, Signed, and what they call.
-/
import Derived.Test.YtbfhgcnfhjhgcaaCodes
namespace Go.Proofs.Ytbfhgcnfhjhgcaa
open Go.RowKit
set_option linter.unusedVariables false
set_option linter.unusedSimpArgs false

theorem set4 {W : World} {b : Nat} {t : TypeId} {u0 u1 u2 u3 : Value} (h : Blk W b t #[u0, u1, u2, u3]) (v0 v1 v2 v3 : Value) :
    Blk ((((W.setCell ⟨b, 0, none⟩ v0).setCell ⟨b, 1, none⟩ v1).setCell ⟨b, 2, none⟩ v2).setCell ⟨b, 3, none⟩ v3) b t #[v0, v1, v2, v3] := (((h.set 0 v0).set 1 v1).set 2 v2).set 3 v3
theorem below_set4 {w W : World} {B b : Nat} (h : Below B w W) (hb : B ≤ b) (v0 v1 v2 v3 : Value) :
    Below B w ((((W.setCell ⟨b, 0, none⟩ v0).setCell ⟨b, 1, none⟩ v1).setCell ⟨b, 2, none⟩ v2).setCell ⟨b, 3, none⟩ v3) :=
  (((h.setCell (p := ⟨b, 0, none⟩) hb _).setCell (p := ⟨b, 1, none⟩) hb _).setCell (p := ⟨b, 2, none⟩) hb _).setCell (p := ⟨b, 3, none⟩) hb _

set_option maxRecDepth 100000 in
set_option maxHeartbeats 1000000 in
theorem Decode_any (x : Int) (w : World) : Calls Try.prog 19 #[.int .i64 x] w (Ret w (.tuple #[(decOf x).1.val, .int .i64 (decOf x).2])) := by
  have B0 := hid (Blk.new w #[.int .i64 0, .int .i64 0, .int .i64 0, .int .i64 0] 23)
  have hi := fun W => isWord_any x W
  by_cases h : Wd x
  · have e : decOf x = (dec x, 0) := by unfold decOf; rw [if_pos h]
    rw [decide_eq_true h] at hi
    rw [e]
    have HI := hid hi
    have HD := hid (fun W => orderOf_any x W)
    generalize dec x = o at *
    clear hi e
    go_enter Try.func19, Try.ntmps19
    go_wp2_with (first
      | (go_at_call 43; refine (HI.out _).mono ?_; rintro e w1 ⟨rfl, hb1⟩; have HB1 := hid (show Below w.heap.size w w1 from b_call hb1 (by (repeat (first | assumption | exact Below.refl _ _ | refine b_alloc ?_ _ | refine Below.drew ?_ | refine b_drewN ?_ _ | refine Below.setCell ?_ (by first | omega | (simp; done) | (simp; omega)) _ | refine b_call (by assumption) ?_)))); have B1 := hid (B0.out.call hb1); clear hb1)
      | (go_at_call 44; refine (HD.out _).mono ?_; rintro e w2 ⟨rfl, hb2⟩; have HB2 := hid (b_call hb2 HB1.out); have B2 := hid (B1.out.call hb2); obtain ⟨c0, c1, c2, c3⟩ := odBlk B2.out; obtain ⟨f0, f1, f2, f3⟩ := odFrz B2.out; clear hb2))
    have B5 := set4 B2.out (.int .i64 o.op) (.int .i64 o.fr) (.int .i64 o.to) (.int .i64 o.nx)
    have HB5 := below_set4 HB2.out (Nat.le_refl _) (.int .i64 o.op) (.int .i64 o.fr) (.int .i64 o.to) (.int .i64 o.nx)
    obtain ⟨z0, z1, z2, z3⟩ := odBlk B5
    clear c0 c1 c2 c3 f0 f1 f2 f3
    generalize World.setCell (World.setCell (World.setCell (World.setCell w2 ⟨w.heap.size, 0, none⟩ _) ⟨w.heap.size, 1, none⟩ _) ⟨w.heap.size, 2, none⟩ _) ⟨w.heap.size, 3, none⟩ _ = WF at *
    refine ⟨rfl, .tuple #[o.val, .int .i64 0], ?_, rfl, HB5⟩
    simp [results, Try.f19, go_sem, z0, z1, z2, z3]
  · have e : decOf x = (⟨0, 0, 0, 0⟩, 7) := by unfold decOf; rw [if_neg h]
    rw [decide_eq_false h] at hi
    rw [e]
    have HI := hid hi
    clear hi e h
    go_enter Try.func19, Try.ntmps19
    go_wp2_with (go_at_call 43; refine (HI.out _).mono ?_; rintro e w1 ⟨rfl, hb1⟩; have HB1 := hid (show Below w.heap.size w w1 from b_call hb1 (by (repeat (first | assumption | exact Below.refl _ _ | refine b_alloc ?_ _ | refine Below.drew ?_ | refine b_drewN ?_ _ | refine Below.setCell ?_ (by first | omega | (simp; done) | (simp; omega)) _ | refine b_call (by assumption) ?_)))); have B1 := hid (B0.out.call hb1); obtain ⟨c0, c1, c2, c3⟩ := odBlk B1.out; obtain ⟨f0, f1, f2, f3⟩ := odFrz B1.out; clear hb1)
    have B5 := set4 B1.out (.int .i64 0) (.int .i64 0) (.int .i64 0) (.int .i64 0)
    have HB5 := below_set4 HB1.out (Nat.le_refl _) (.int .i64 0) (.int .i64 0) (.int .i64 0) (.int .i64 0)
    obtain ⟨z0, z1, z2, z3⟩ := odBlk B5
    clear c0 c1 c2 c3 f0 f1 f2 f3
    generalize World.setCell (World.setCell (World.setCell (World.setCell w1 ⟨w.heap.size, 0, none⟩ _) ⟨w.heap.size, 1, none⟩ _) ⟨w.heap.size, 2, none⟩ _) ⟨w.heap.size, 3, none⟩ _ = WF at *
    refine ⟨rfl, .tuple #[.agg #[.int .i64 0, .int .i64 0, .int .i64 0, .int .i64 0], .int .i64 7], ?_, rfl, HB5⟩
    simp [results, Try.f19, go_sem, z0, z1, z2, z3]

/-! ### the reference -/
set_option maxHeartbeats 400000 in
theorem in_any (n lo hi : Int) (w : World) : Calls Try.prog 50 #[.int .i64 n, .int .i64 lo, .int .i64 hi] w fun e w' => e = .returned (.bool (decide (lo ≤ n ∧ n ≤ hi))) ∧ w = w' := by
  go_enter Try.func50, Try.ntmps50
  go_wp2
  all_goals (go_ret; exact ⟨ret_bool (by simp [*] <;> omega), rfl⟩)
set_option maxHeartbeats 400000 in
theorem Word_any (n : Int) (w : World) : Calls Try.prog 39 #[.int .i64 n] w fun e w' => e = .returned (.bool (decide (Wd n))) ∧ w = w' := by
  go_enter Try.func39, Try.ntmps39
  go_wp2_with (go_at_call 50; refine (in_any _ _ _ _).mono ?_; rintro e w' ⟨rfl, rfl⟩)
  go_ret
  exact ⟨ret_bool (by simp [Wd]), rfl⟩
set_option maxHeartbeats 400000 in
theorem Address_any (n : Int) (w : World) : Calls Try.prog 56 #[.int .i64 n] w fun e w' => e = .returned (.bool (decide (Ad n))) ∧ w = w' := by
  go_enter Try.func56, Try.ntmps56
  go_wp2_with (go_at_call 50; refine (in_any _ _ _ _).mono ?_; rintro e w' ⟨rfl, rfl⟩)
  go_ret
  exact ⟨ret_bool (by simp [Ad]), rfl⟩
set_option maxRecDepth 100000 in
set_option maxHeartbeats 1000000 in
theorem refOrder_any (o : Od) (w : World) : Calls Try.prog 42 #[o.val] w (Ret w (.bool (decide o.Ok))) := by
  go_enter Try.func42, Try.ntmps42
  go_wp2_with (first
    | (go_at_call 50; refine (in_any _ _ _ _).mono ?_; rintro e w' ⟨rfl, rfl⟩)
    | (go_at_call 56; refine (Address_any _ _).mono ?_; rintro e w' ⟨rfl, rfl⟩))
  all_goals (go_ret; exact ⟨ret_bool (by rw [Bool.eq_iff_iff]; simp only [Ad, Bool.and_eq_true, decide_eq_true_eq, Bool.false_eq_true, false_iff, true_iff, Bool.true_eq_false]; unfold Od.Ok; omega), by (repeat (first | assumption | exact Below.refl _ _ | refine b_alloc ?_ _ | refine Below.drew ?_ | refine b_drewN ?_ _ | refine Below.setCell ?_ (by first | omega | (simp; done) | (simp; omega)) _ | refine b_call (by assumption) ?_))⟩)
set_option maxRecDepth 100000 in
set_option maxHeartbeats 1000000 in
theorem Written_any (o : Od) (h : o.Ok) (w : World) : Calls Try.prog 37 #[o.val] w (Ret w (.int .i64 (enc o))) := by
  obtain ⟨h1, h2, h3, h4⟩ := h
  unfold enc
  go_enter Try.func37, Try.ntmps37
  go_wp2
  go_ret
  exact ⟨rfl, by (repeat (first | assumption | exact Below.refl _ _ | refine b_alloc ?_ _ | refine Below.drew ?_ | refine b_drewN ?_ _ | refine Below.setCell ?_ (by first | omega | (simp; done) | (simp; omega)) _ | refine b_call (by assumption) ?_))⟩
set_option maxRecDepth 100000 in
set_option maxHeartbeats 1000000 in
theorem refEncode_any (o : Od) (w : World) : Calls Try.prog 18 #[o.val] w (Ret w (val2 (encOf o).1 (encOf o).2)) := by
  have HO := hid (odAt_new w o)
  have hi := fun W => refOrder_any o W
  by_cases h : o.Ok
  · have e : encOf o = (enc o, 0) := by unfold encOf; rw [if_pos h]
    rw [decide_eq_true h] at hi
    rw [e]
    have HI := hid hi
    have HW := hid (fun W => Written_any o h W)
    generalize enc o = q at *
    clear hi e h
    go_enter Try.func18, Try.ntmps18
    go_wp2_with (first
      | (go_at_call 42; refine (HI.out _).mono ?_; rintro e w1 ⟨rfl, hb1⟩; have HB1 := hid (show Below w.heap.size w w1 from b_call hb1 (by (repeat (first | assumption | exact Below.refl _ _ | refine b_alloc ?_ _ | refine Below.drew ?_ | refine b_drewN ?_ _ | refine Below.setCell ?_ (by first | omega | (simp; done) | (simp; omega)) _ | refine b_call (by assumption) ?_)))); obtain ⟨d0, d1, d2, d3⟩ := odAt_call HO.out hb1; clear hb1)
      | (go_at_call 37; refine (HW.out _).mono ?_; rintro e w2 ⟨rfl, hb2⟩; have HB2 := hid (b_call hb2 HB1.out); clear hb2))
    go_ret2
    exact ⟨rfl, HB2.out⟩
  · have e : encOf o = (0, 7) := by unfold encOf; rw [if_neg h]
    rw [decide_eq_false h] at hi
    rw [e]
    have HI := hid hi
    clear hi e h
    go_enter Try.func18, Try.ntmps18
    go_wp2_with (go_at_call 42; refine (HI.out _).mono ?_; rintro e w1 ⟨rfl, hb1⟩; have HB1 := hid (show Below w.heap.size w w1 from b_call hb1 (by (repeat (first | assumption | exact Below.refl _ _ | refine b_alloc ?_ _ | refine Below.drew ?_ | refine b_drewN ?_ _ | refine Below.setCell ?_ (by first | omega | (simp; done) | (simp; omega)) _ | refine b_call (by assumption) ?_)))); clear hb1)
    go_ret2
    exact ⟨rfl, HB1.out⟩
set_option maxRecDepth 100000 in
set_option maxHeartbeats 1000000 in
theorem refSigned_any (x : Int) (w : World) : Calls Try.prog 22 #[.int .i64 x] w (Ret w (val2 (sgnOf x).1 (sgnOf x).2)) := by
  have hi := fun W => Word_any x W
  by_cases h : Wd x
  · have e : sgnOf x = (sgn x, 0) := by unfold sgnOf; rw [if_pos h]
    rw [decide_eq_true h] at hi
    rw [e]
    have HI := hid hi
    clear hi e
    go_enter Try.func22, Try.ntmps22
    go_wp2_with (first
      | (go_at_call 39; refine (HI.out _).mono ?_; rintro e w1 ⟨rfl, rfl⟩)
      | (go_at_call 47; refine (Sign_any _ (by omega) _).mono ?_; rintro e w2 ⟨rfl, rfl⟩))
    go_ret2
    exact ⟨rfl, Below.refl _ _⟩
  · have e : sgnOf x = (0, 7) := by unfold sgnOf; rw [if_neg h]
    rw [decide_eq_false h] at hi
    rw [e]
    have HI := hid hi
    clear hi e h
    go_enter Try.func22, Try.ntmps22
    go_wp2_with (go_at_call 39; refine (HI.out _).mono ?_; rintro e w1 ⟨rfl, rfl⟩)
    go_ret2
    exact ⟨rfl, Below.refl _ _⟩

set_option maxRecDepth 100000 in
set_option maxHeartbeats 1000000 in
theorem decode_any (x : Int) (hx : Wd x) (w : World) : Calls Try.prog 45 #[.int .i64 x] w (Ret w (dec x).val) := by
  go_enter Try.func45, Try.ntmps45
  go_wp2
  have e : (dec x).val = .agg #[.int .i64 (x / 128 / 128 / 128), .int .i64 (x / 128 / 128 % 128), .int .i64 (x / 128 % 128), .int .i64 (x % 128)] := by
    have q0 : x / 2097152 = x / 128 / 128 / 128 := by omega
    have q1 : x / 16384 % 128 = x / 128 / 128 % 128 := by omega
    simp only [Od.val, dec, q0, q1]
  rw [e]
  exact bodyPost_ret (v := .agg #[.int .i64 (x / 128 / 128 / 128), .int .i64 (x / 128 / 128 % 128), .int .i64 (x / 128 % 128), .int .i64 (x % 128)]) (by simp [results, Try.results45, go_sem]) rfl ⟨rfl, by (repeat (first | assumption | exact Below.refl _ _ | refine b_alloc ?_ _ | refine Below.drew ?_ | refine b_drewN ?_ _ | refine Below.setCell ?_ (by first | omega | (simp; done) | (simp; omega)) _ | refine b_call (by assumption) ?_))⟩
set_option maxRecDepth 100000 in
set_option maxHeartbeats 1000000 in
theorem refDecode_any (x : Int) (w : World) : Calls Try.prog 20 #[.int .i64 x] w (Ret w (.tuple #[(decOf x).1.val, .int .i64 (decOf x).2])) := by
  have B0 := hid (Blk.new w #[.int .i64 0, .int .i64 0, .int .i64 0, .int .i64 0] 23)
  have hi := fun W => Word_any x W
  by_cases h : Wd x
  · have e : decOf x = (dec x, 0) := by unfold decOf; rw [if_pos h]
    rw [decide_eq_true h] at hi
    rw [e]
    have HI := hid hi
    have HD := hid (fun W => decode_any x h W)
    generalize dec x = o at *
    clear hi e
    go_enter Try.func20, Try.ntmps20
    go_wp2_with (first
      | (go_at_call 39; refine (HI.out _).mono ?_; rintro e w1 ⟨rfl, rfl⟩)
      | (go_at_call 45; refine (HD.out _).mono ?_; rintro e w2 ⟨rfl, hb2⟩; have HB2 := hid (b_call hb2 (b_alloc (Below.refl _ _) _)); have B2 := hid (B0.out.call hb2); obtain ⟨c0, c1, c2, c3⟩ := odBlk B2.out; obtain ⟨f0, f1, f2, f3⟩ := odFrz B2.out; clear hb2))
    have B5 := set4 B2.out (.int .i64 o.op) (.int .i64 o.fr) (.int .i64 o.to) (.int .i64 o.nx)
    have HB5 := below_set4 HB2.out (Nat.le_refl _) (.int .i64 o.op) (.int .i64 o.fr) (.int .i64 o.to) (.int .i64 o.nx)
    obtain ⟨z0, z1, z2, z3⟩ := odBlk B5
    clear c0 c1 c2 c3 f0 f1 f2 f3
    generalize World.setCell (World.setCell (World.setCell (World.setCell w2 ⟨w.heap.size, 0, none⟩ _) ⟨w.heap.size, 1, none⟩ _) ⟨w.heap.size, 2, none⟩ _) ⟨w.heap.size, 3, none⟩ _ = WF at *
    refine ⟨rfl, .tuple #[o.val, .int .i64 0], ?_, rfl, HB5⟩
    simp [results, Try.f20, go_sem, z0, z1, z2, z3]
  · have e : decOf x = (⟨0, 0, 0, 0⟩, 7) := by unfold decOf; rw [if_neg h]
    rw [decide_eq_false h] at hi
    rw [e]
    have HI := hid hi
    clear hi e h
    go_enter Try.func20, Try.ntmps20
    go_wp2_with (go_at_call 39; refine (HI.out _).mono ?_; rintro e w1 ⟨rfl, rfl⟩)
    refine ⟨rfl, .tuple #[.agg #[.int .i64 0, .int .i64 0, .int .i64 0, .int .i64 0], .int .i64 7], ?_, rfl, by (repeat (first | assumption | exact Below.refl _ _ | refine b_alloc ?_ _ | refine Below.drew ?_ | refine b_drewN ?_ _ | refine Below.setCell ?_ (by first | omega | (simp; done) | (simp; omega)) _ | refine b_call (by assumption) ?_))⟩
    simp [results, Try.f20, go_sem]
end Go.Proofs.Ytbfhgcnfhjhgcaa
