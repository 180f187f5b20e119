/-
  orderOf; Encode, Decode, Signed; and the reference's.
-/
import Derived.Test.YtbfhgcnfhjhgcaaWords
namespace Go.Proofs.Ytbfhgcnfhjhgcaa
open Go.RowKit
set_option linter.unusedVariables false
set_option linter.unusedSimpArgs false

theorem below_drewN (W : World) (n : Nat) : Below W.heap.size W (W.drewN n) := b_drewN (Below.refl _ _) n
theorem parted7 (x : Int) (w : World) : Calls Try.prog 65 #[.int .i64 x, .int .i64 7] w fun e w' => e = .returned (.tuple #[.int .i64 (x / 128), .int .i64 (x % 128)]) ∧ Below w.heap.size w w' :=
  (parted_any x 7 (.inl rfl) w).mono fun e w' ⟨he, n, hn⟩ => ⟨he, by rw [hn]; exact below_drewN _ _⟩
theorem parted24 (x : Int) (w : World) : Calls Try.prog 65 #[.int .i64 x, .int .i64 24] w fun e w' => e = .returned (.tuple #[.int .i64 (x / 16777216), .int .i64 (x % 16777216)]) ∧ Below w.heap.size w w' :=
  (parted_any x 24 (.inr rfl) w).mono fun e w' ⟨he, n, hn⟩ => ⟨he, by rw [hn]; exact below_drewN _ _⟩
/-- The four cells of an order's block. -/
theorem odBlk {W : World} {b : Nat} {t : TypeId} {v0 v1 v2 v3 : Value} (h : Blk W b t #[v0, v1, v2, v3]) : W.cell? ⟨b, 0, none⟩ = some v0 ∧ W.cell? ⟨b, 1, none⟩ = some v1 ∧ W.cell? ⟨b, 2, none⟩ = some v2 ∧ W.cell? ⟨b, 3, none⟩ = some v3 :=
  ⟨h.cell 0 _ rfl, h.cell 1 _ rfl, h.cell 2 _ rfl, h.cell 3 _ rfl⟩
theorem odFrz {W : World} {b : Nat} {t : TypeId} {v0 v1 v2 v3 : Value} (h : Blk W b t #[v0, v1, v2, v3]) : W.frozen? ⟨b, 0, none⟩ = false ∧ W.frozen? ⟨b, 1, none⟩ = false ∧ W.frozen? ⟨b, 2, none⟩ = false ∧ W.frozen? ⟨b, 3, none⟩ = false :=
  ⟨h.frozen 0, h.frozen 1, h.frozen 2, h.frozen 3⟩
set_option maxRecDepth 100000 in
set_option maxHeartbeats 1000000 in
theorem orderOf_any (x : Int) (w : World) : Calls Try.prog 44 #[.int .i64 x] w (Ret w (dec x).val) := by
  have B0 := hid (Blk.new w #[.int .i64 0, .int .i64 0, .int .i64 0, .int .i64 0] 23)
  have M0 := hid trivial
  go_enter Try.func44, Try.ntmps44
  go_wp2_with (first
    | (have m := M0; go_at_call 65; refine (parted7 x _).mono ?_; rintro e w1 ⟨rfl, hb1⟩; have HB1 := hid (b_call hb1 (b_alloc (Below.refl _ _) _)); have B1 := hid (B0.out.call hb1); obtain ⟨c0, c1, c2, c3⟩ := odBlk B1.out; obtain ⟨f0, f1, f2, f3⟩ := odFrz B1.out; clear hb1 m M0; have M1 := hid trivial)
    | (have m := M1; go_at_call 65; refine (parted7 (x / 128) _).mono ?_; rintro e w2 ⟨rfl, hb2⟩; have HB2 := hid (b_call hb2 (HB1.out.setCell (p := ⟨w.heap.size, 3, none⟩) (Nat.le_refl _) _)); have B2 := hid ((B1.out.set 3 (.int .i64 (x % 128))).call hb2); clear c0 c1 c2 c3 f0 f1 f2 f3; obtain ⟨c0, c1, c2, c3⟩ := odBlk B2.out; obtain ⟨f0, f1, f2, f3⟩ := odFrz B2.out; clear hb2 m M1; have M2 := hid trivial)
    | (have m := M2; go_at_call 65; refine (parted7 (x / 128 / 128) _).mono ?_; rintro e w3 ⟨rfl, hb3⟩; have HB3 := hid (b_call hb3 (HB2.out.setCell (p := ⟨w.heap.size, 2, none⟩) (Nat.le_refl _) _)); have B3 := hid ((B2.out.set 2 (.int .i64 (x / 128 % 128))).call hb3); have B4 := hid ((B3.out.set 0 (.int .i64 (x / 128 / 128 / 128))).set 1 (.int .i64 (x / 128 / 128 % 128))); clear c0 c1 c2 c3 f0 f1 f2 f3; obtain ⟨c0, c1, c2, c3⟩ := odBlk B3.out; obtain ⟨f0, f1, f2, f3⟩ := odFrz B3.out; obtain ⟨g0, g1, g2, g3⟩ := odBlk B4.out; clear hb3 m M2))
  have B5 := (((B4.out.set 0 (.int .i64 (x / 128 / 128 / 128))).set 1 (.int .i64 (x / 128 / 128 % 128))).set 2 (.int .i64 (x / 128 % 128))).set 3 (.int .i64 (x % 128))
  have HB5 := ((((((HB3.out.setCell (p := ⟨w.heap.size, 0, none⟩) (Nat.le_refl _) (.int .i64 (x / 128 / 128 / 128))).setCell (p := ⟨w.heap.size, 1, none⟩) (Nat.le_refl _) (.int .i64 (x / 128 / 128 % 128))).setCell (p := ⟨w.heap.size, 0, none⟩) (Nat.le_refl _) (.int .i64 (x / 128 / 128 / 128))).setCell (p := ⟨w.heap.size, 1, none⟩) (Nat.le_refl _) (.int .i64 (x / 128 / 128 % 128))).setCell (p := ⟨w.heap.size, 2, none⟩) (Nat.le_refl _) (.int .i64 (x / 128 % 128))).setCell (p := ⟨w.heap.size, 3, none⟩) (Nat.le_refl _) (.int .i64 (x % 128)))
  obtain ⟨z0, z1, z2, z3⟩ := odBlk B5
  clear c0 c1 c2 c3 f0 f1 f2 f3 g0 g1 g2 g3
  generalize World.setCell (World.setCell (World.setCell (World.setCell (World.setCell (World.setCell w3 ⟨w.heap.size, 0, none⟩ _) ⟨w.heap.size, 1, none⟩ _) ⟨w.heap.size, 0, none⟩ _) ⟨w.heap.size, 1, none⟩ _) ⟨w.heap.size, 2, none⟩ _) ⟨w.heap.size, 3, none⟩ _ = WF at *
  have e : (dec x).val = .agg #[.int .i64 (x / 128 / 128 / 128), .int .i64 (x / 128 / 128 % 128), .int .i64 (x / 128 % 128), .int .i64 (x % 128)] := by
    have q0 : x / 2097152 = x / 128 / 128 / 128 := by omega
    have q1 : x / 16384 % 128 = x / 128 / 128 % 128 := by omega
    simp only [Od.val, dec, q0, q1]
  rw [e]
  refine bodyPost_ret (v := .agg #[.int .i64 (x / 128 / 128 / 128), .int .i64 (x / 128 / 128 % 128), .int .i64 (x / 128 % 128), .int .i64 (x % 128)]) ?_ rfl ⟨rfl, HB5⟩
  simp [results, Try.f44, go_sem, z0, z1, z2, z3]

/-! ### Encode, Decode, Signed -/
/-- Two results, the second an error. -/
abbrev val2 (n e : Int) : Value := .tuple #[.int .i64 n, .int .i64 e]
def encOf (o : Od) : Int × Int := if o.Ok then (enc o, 0) else (0, 7)
def sgnOf (x : Int) : Int × Int := if Wd x then (sgn x, 0) else (0, 7)
def decOf (x : Int) : Od × Int := if Wd x then (dec x, 0) else (⟨0, 0, 0, 0⟩, 7)
set_option maxRecDepth 100000 in
set_option maxHeartbeats 1000000 in
theorem Encode_any (o : Od) (w : World) : Calls Try.prog 17 #[o.val] w (Ret w (val2 (encOf o).1 (encOf o).2)) := by
  have HO := hid (odAt_new w o)
  by_cases h : o.Ok
  · have hi := fun W => isOrder_any o W
    rw [decide_eq_true h] at hi
    have HI := hid hi
    obtain ⟨h1, h2, h3, h4⟩ := id h
    have e : encOf o = (enc o, 0) := by unfold encOf; rw [if_pos h]
    rw [e]
    unfold enc
    clear hi h e
    go_enter Try.func17, Try.ntmps17
    go_wp2_with (first
      | (go_at_call 40; refine (HI.out _).mono ?_; rintro e w1 ⟨rfl, hb1⟩; have HB1 := hid (show Below w.heap.size w w1 from b_call hb1 (by (repeat (first | assumption | exact Below.refl _ _ | refine b_alloc ?_ _ | refine Below.drew ?_ | refine b_drewN ?_ _ | refine Below.setCell ?_ (by first | omega | (simp; done) | (simp; omega)) _ | refine b_call (by assumption) ?_)))); obtain ⟨d0, d1, d2, d3⟩ := odAt_call HO.out hb1; clear hb1)
      | (go_at_call 41; refine (joined_any _ _ (by omega) (by omega) _).mono ?_; rintro e w2 ⟨rfl, rfl⟩))
    go_ret2
    exact ⟨rfl, HB1.out⟩
  · have hi := fun W => isOrder_any o W
    rw [decide_eq_false h] at hi
    have HI := hid hi
    have e : encOf o = (0, 7) := by unfold encOf; rw [if_neg h]
    rw [e]
    clear hi h e
    go_enter Try.func17, Try.ntmps17
    go_wp2_with (go_at_call 40; refine (HI.out _).mono ?_; rintro e w1 ⟨rfl, hb1⟩; have HB1 := hid (show Below w.heap.size w w1 from b_call hb1 (by (repeat (first | assumption | exact Below.refl _ _ | refine b_alloc ?_ _ | refine Below.drew ?_ | refine b_drewN ?_ _ | refine Below.setCell ?_ (by first | omega | (simp; done) | (simp; omega)) _ | refine b_call (by assumption) ?_)))); clear hb1)
    go_ret2
    exact ⟨rfl, HB1.out⟩
set_option maxRecDepth 100000 in
set_option maxHeartbeats 1000000 in
theorem Signed_any (x : Int) (w : World) : Calls Try.prog 21 #[.int .i64 x] w (Ret w (val2 (sgnOf x).1 (sgnOf x).2)) := by
  have hi := fun W => isWord_any x W
  by_cases h : Wd x
  · have e : sgnOf x = (sgn x, 0) := by unfold sgnOf; rw [if_pos h]
    rw [decide_eq_true h] at hi
    rw [e]
    have HI := hid hi
    clear hi e
    go_enter Try.func21, Try.ntmps21
    go_wp2_with (first
      | (go_at_call 43; refine (HI.out _).mono ?_; rintro e w1 ⟨rfl, hb1⟩; have HB1 := hid hb1; clear hb1)
      | (go_at_call 46; refine (signed_any _ (by omega) _).mono ?_; rintro e w2 ⟨rfl, rfl⟩))
    go_ret2
    exact ⟨rfl, HB1.out⟩
  · have e : sgnOf x = (0, 7) := by unfold sgnOf; rw [if_neg h]
    rw [decide_eq_false h] at hi
    rw [e]
    have HI := hid hi
    clear hi e h
    go_enter Try.func21, Try.ntmps21
    go_wp2_with (go_at_call 43; refine (HI.out _).mono ?_; rintro e w1 ⟨rfl, hb1⟩; have HB1 := hid hb1; clear hb1)
    go_ret2
    exact ⟨rfl, HB1.out⟩
end Go.Proofs.Ytbfhgcnfhjhgcaa
