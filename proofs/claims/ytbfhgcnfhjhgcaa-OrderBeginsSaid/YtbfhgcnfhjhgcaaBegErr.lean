/-
  Begin, for any words, tape and address.
-/
import Derived.Test.YtbfhgcnfhjhgcaaBegin
namespace Go.Proofs.Ytbfhgcnfhjhgcaa
open Go.RowKit
set_option linter.unusedVariables false
set_option linter.unusedSimpArgs false
attribute [local go_sem ↓] oper_store

def begOf (store tape : List Int) (start : Int) : St := if begErr store tape start = 0 then begSt store tape start else st0
set_option maxRecDepth 100000 in
set_option maxHeartbeats 4000000 in
theorem begin_long (a b : Option Addr) (ca cb : Nat) (store tape : List Int) (start : Int) (h : ¬ (store.length ≤ 128 ∧ tape.length ≤ 200)) (w : World) :
    Calls Try.prog 28 #[.slice a store.length ca, .slice b tape.length cb, .int .i64 start] w (RetS w st0 3) := by
  have B0 := hid (Blk.new w zeroCells 37)
  have HB0 := hid (b_alloc (Below.refl w.heap.size w) (.cells zeroCells 37))
  have hst := storeOk8 B0.out rfl
  have hst2 := fun (o : Obj) => storeOk8 (B0.out.alloc o) rfl
  have hcs : (128 : Int) < (store.length : Int) ∨ (¬ (128 : Int) < (store.length : Int) ∧ (200 : Int) < (tape.length : Int)) := by omega
  clear h
  rcases hcs with h1 | ⟨h1, h2⟩
  all_goals
    go_enter Try.func28, Try.ntmps28
    go_wp2
    have x8 := B0.out.row zeroCells
    have b8 := below_setRow HB0.out (Nat.le_refl w.heap.size) zeroCells
    obtain ⟨⟨z0, z1, z2, z3⟩, z4, z5, z6, z7⟩ := stBlk x8
    generalize World.setRow (w.alloc (.cells zeroCells 37)) w.heap.size zeroCells = WF at *
    refine ⟨rfl, .tuple #[.agg zeroCells, .int .i64 3], ?_, slNone, rfl, stAt0 _, b8⟩
    simp [results, Try.f28, go_sem, z0, z1, z2, z3, z4, z5, z6, z7]
set_option maxRecDepth 100000 in
set_option maxHeartbeats 4000000 in
theorem begin_range (a b : Option Addr) (ca cb : Nat) (store tape : List Int) (start : Int) (h1 : store.length ≤ 128) (h2 : tape.length ≤ 200) (h : ¬ (outW store < 0 ∧ outW tape < 0 ∧ Ad start)) (w : World) (hx : IntsAt w a store) (hy : IntsAt w b tape) :
    Calls Try.prog 28 #[.slice a store.length ca, .slice b tape.length cb, .int .i64 start] w (RetS w st0 7) := by
  have B0 := hid (Blk.new w zeroCells 37)
  have HX := hid hx
  have HY := hid hy
  have hs := fun W a c g => outW_any a c store (by unfold Len; omega) W g
  have ht := fun W a c g => outW_any a c tape (by unfold Len; omega) W g
  have HS := hid hs
  have HT := hid ht
  have ha := fun W => isAddress_any start W
  have g1 : ¬ (128 : Int) < (store.length : Int) := by omega
  have g2 : ¬ (200 : Int) < (tape.length : Int) := by omega
  have hcs : 0 ≤ outW store ∨ (¬ 0 ≤ outW store ∧ 0 ≤ outW tape) ∨ (¬ 0 ≤ outW store ∧ ¬ 0 ≤ outW tape ∧ ¬ Ad start) := by
    by_cases k1 : 0 ≤ outW store
    · exact .inl k1
    · by_cases k2 : 0 ≤ outW tape
      · exact .inr (.inl ⟨k1, k2⟩)
      · exact .inr (.inr ⟨k1, k2, fun k3 => h ⟨by omega, by omega, k3⟩⟩)
  have M0 := hid trivial
  clear hs ht hx hy h
  rcases hcs with k1 | ⟨k1, k2⟩ | ⟨k1, k2, k3⟩
  · clear ha
    go_enter Try.func28, Try.ntmps28
    go_wp2_with (first
      | (have m := M0; go_at_call 52; refine (HS.out _ _ _ (HX.out.below (b_alloc (Below.refl _ _) _))).mono ?_; rintro e w1 ⟨rfl, hb1⟩; have HB1 := hid (b_call hb1 (b_alloc (Below.refl _ _) _)); have B1 := hid (B0.out.call hb1); have hst := storeOk8 B1.out rfl; clear hb1 m M0))
    have x8 := B1.out.row zeroCells
    have b8 := below_setRow HB1.out (Nat.le_refl w.heap.size) zeroCells
    obtain ⟨⟨z0, z1, z2, z3⟩, z4, z5, z6, z7⟩ := stBlk x8
    generalize World.setRow w1 w.heap.size zeroCells = WF at *
    refine ⟨rfl, .tuple #[.agg zeroCells, .int .i64 7], ?_, slNone, rfl, stAt0 _, b8⟩
    simp [results, Try.f28, go_sem, z0, z1, z2, z3, z4, z5, z6, z7]
  · clear ha
    go_enter Try.func28, Try.ntmps28
    go_wp2_with (first
      | (have m := M0; go_at_call 52; refine (HS.out _ _ _ (HX.out.below (b_alloc (Below.refl _ _) _))).mono ?_; rintro e w1 ⟨rfl, hb1⟩; have HB1 := hid (b_call hb1 (b_alloc (Below.refl _ _) _)); have B1 := hid (B0.out.call hb1); clear hb1 m M0; have M1 := hid trivial)
      | (have m := M1; go_at_call 52; refine (HT.out _ _ _ (HY.out.below HB1.out)).mono ?_; rintro e w2 ⟨rfl, hb2⟩; have HB2 := hid (b_call hb2 HB1.out); have B2 := hid (B1.out.call hb2); have hst := storeOk8 B2.out rfl; clear hb2 m M1))
    have x8 := B2.out.row zeroCells
    have b8 := below_setRow HB2.out (Nat.le_refl w.heap.size) zeroCells
    obtain ⟨⟨z0, z1, z2, z3⟩, z4, z5, z6, z7⟩ := stBlk x8
    generalize World.setRow w2 w.heap.size zeroCells = WF at *
    refine ⟨rfl, .tuple #[.agg zeroCells, .int .i64 7], ?_, slNone, rfl, stAt0 _, b8⟩
    simp [results, Try.f28, go_sem, z0, z1, z2, z3, z4, z5, z6, z7]
  · rw [decide_eq_false k3] at ha
    have HA := hid ha
    clear ha k3
    go_enter Try.func28, Try.ntmps28
    go_wp2_with (first
      | (have m := M0; go_at_call 52; refine (HS.out _ _ _ (HX.out.below (b_alloc (Below.refl _ _) _))).mono ?_; rintro e w1 ⟨rfl, hb1⟩; have HB1 := hid (b_call hb1 (b_alloc (Below.refl _ _) _)); have B1 := hid (B0.out.call hb1); clear hb1 m M0; have M1 := hid trivial)
      | (have m := M1; go_at_call 52; refine (HT.out _ _ _ (HY.out.below HB1.out)).mono ?_; rintro e w2 ⟨rfl, hb2⟩; have HB2 := hid (b_call hb2 HB1.out); have B2 := hid (B1.out.call hb2); clear hb2 m M1)
      | (go_at_call 57; refine (HA.out _).mono ?_; rintro e w3 ⟨rfl, hb3⟩; have HB3 := hid (b_call hb3 HB2.out); have B3 := hid (B2.out.call hb3); have hst := storeOk8 B3.out rfl; clear hb3))
    have x8 := B3.out.row zeroCells
    have b8 := below_setRow HB3.out (Nat.le_refl w.heap.size) zeroCells
    obtain ⟨⟨z0, z1, z2, z3⟩, z4, z5, z6, z7⟩ := stBlk x8
    generalize World.setRow w3 w.heap.size zeroCells = WF at *
    refine ⟨rfl, .tuple #[.agg zeroCells, .int .i64 7], ?_, slNone, rfl, stAt0 _, b8⟩
    simp [results, Try.f28, go_sem, z0, z1, z2, z3, z4, z5, z6, z7]
theorem outW_one {xs : List Int} (h : outW xs < 0) : outW xs = -1 := by
  rcases outW_cases xs with e | e
  · exact e
  · omega
theorem Begin_any (a b : Option Addr) (ca cb : Nat) (store tape : List Int) (start : Int) (w : World) (hx : IntsAt w a store) (hy : IntsAt w b tape) :
    Calls Try.prog 28 #[.slice a store.length ca, .slice b tape.length cb, .int .i64 start] w (RetS w (begOf store tape start) (begErr store tape start)) := by
  unfold begOf begErr
  by_cases h1 : store.length ≤ 128 ∧ tape.length ≤ 200
  · rw [if_pos h1]
    by_cases h2 : outW store < 0 ∧ outW tape < 0 ∧ Ad start
    · rw [if_pos h2, if_pos rfl]
      exact begin_ok a b ca cb store tape start h1.1 h1.2 (outW_one h2.1) (outW_one h2.2.1) h2.2.2 w hx hy
    · rw [if_neg h2, if_neg (by decide)]
      exact begin_range a b ca cb store tape start h1.1 h1.2 h2 w hx hy
  · rw [if_neg h1, if_neg (by decide)]
    exact begin_long a b ca cb store tape start h1 w
end Go.Proofs.Ytbfhgcnfhjhgcaa
