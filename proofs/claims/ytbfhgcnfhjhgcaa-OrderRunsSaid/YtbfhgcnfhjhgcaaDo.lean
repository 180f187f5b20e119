/-
  do: what an order does.
-/
import Derived.Test.YtbfhgcnfhjhgcaaMoves
namespace Go.Proofs.Ytbfhgcnfhjhgcaa
open Go.RowKit
set_option linter.unusedVariables false
set_option linter.unusedSimpArgs false

/-- The call returns, and the machine's state is this one. -/
def Done (w : World) (base b g : Nat) (q : Sl) (s' : St) (e : Ending) (w' : World) : Prop := (∃ u, e = .returned u) ∧ ∃ q', Mac w' base b g q' s' ∧ Mv base b g q q' w w'
theorem done_wrote {w w1 : World} {base b g k : Nat} {q : Sl} {s : St} {i v : Int} (h : Mac w base b g q s) (hk : i.toNat = k) (hb : Below w.heap.size w w1) : ∃ q', Mac (w1.setCell ⟨g, k, none⟩ (.int .i64 v)) base b g q' { s with store := setI s.store i v } ∧ Mv base b g q q' w (w1.setCell ⟨g, k, none⟩ (.int .i64 v)) :=
  ⟨q, (h.below hb).setg k i v hk, (Mv.below hb h.base_le).trans (Mv.setg h.glt.1 _ _)⟩
abbrev odObj (o : Od) : Obj := .cells #[.int .i64 o.op, .int .i64 o.fr, .int .i64 o.to, .int .i64 o.nx] 23

set_option maxRecDepth 100000 in
set_option maxHeartbeats 4000000 in
theorem do_write (op : Int) (hop : op = 1 ∨ op = 2 ∨ op = 3 ∨ op = 4) (b g ca kf kt : Nat) (nx x y : Int) (hkf : kf < 128) (hkt : kt < 128) (hne : b ≠ g) (hx : 0 ≤ x ∧ x ≤ 16777215) (hy : 0 ≤ y ∧ y ≤ 16777215) (w : World)
    (c0 : w.cell? ⟨b, 0, none⟩ = some (.slice (some ⟨g, 0, none⟩) 128 ca)) (cx : w.cell? ⟨g, kf, none⟩ = some (.int .i64 x)) (cy : w.cell? ⟨g, kt, none⟩ = some (.int .i64 y)) (fy : w.frozen? ⟨g, kt, none⟩ = false) :
    Calls Try.prog 73 #[.pointer (some ⟨b, 0, none⟩), .agg #[.int .i64 op, .int .i64 (kf : Int), .int .i64 (kt : Int), .int .i64 nx]] w
      (Wrote w g kt (if op = 1 then x else if op = 2 then (y + x) % 16777216 else if op = 3 then (y - x) % 16777216 else prodOf y x)) := by
  have hO := odAt_new w ⟨op, kf, kt, nx⟩
  have HC := hid (And.intro c0 (show Cel w g kt _ from ⟨cy, fy⟩))
  have H1 := hid (fun W (hb : Below w.heap.size w W) => write_raw b g ca kt x y hkt hne W (cell_later hb HC.out.1) (HC.out.2.call hb).1 (HC.out.2.call hb).2)
  have H2 := hid (fun W (hb : Below w.heap.size w W) => add_raw b g ca kt x y hkt hne hy (by omega) W (cell_later hb HC.out.1) (HC.out.2.call hb).1 (HC.out.2.call hb).2)
  have H3 := hid (fun W (hb : Below w.heap.size w W) => add_raw b g ca kt (-x) y hkt hne hy (by omega) W (cell_later hb HC.out.1) (HC.out.2.call hb).1 (HC.out.2.call hb).2)
  have H4 := hid (fun W (hb : Below w.heap.size w W) => multiply_raw b g ca kt x y hkt hne hy hx W (cell_later hb HC.out.1) (HC.out.2.call hb).1 (HC.out.2.call hb).2)
  have hb := b_alloc (Below.refl w.heap.size w) (odObj ⟨op, kf, kt, nx⟩)
  replace c0 := cell_later hb c0
  replace cx := cell_later hb cx
  have n0 : (0 : Int) ≤ (kf : Int) := by omega
  have n1 : (kf : Int) < 128 := by omega
  obtain ⟨d0, d1, d2, d3⟩ := hO
  clear hb cy fy
  rcases hop with rfl | rfl | rfl | rfl
  · have hz := hid (show (if (1 : Int) = 1 then x else if (1 : Int) = 2 then (y + x) % 16777216 else if (1 : Int) = 3 then (y - x) % 16777216 else prodOf y x) = x % 16777216 by simp; omega)
    rw [hz.out]
    clear hz
    go_enter Try.func73, Try.ntmps73
    go_wp2
    go_quiet (fail)
    go_wp2_with (go_at_call 80; refine ((H1.out _ (b_drewN (b_alloc (Below.refl _ _) _) _)).mono ?_); rintro e w1 ⟨⟨u, rfl⟩, W1, hb1, rfl⟩; have HB1 := hid (b_call hb1 (b_drewN (b_alloc (Below.refl w.heap.size w) _) _)); clear hb1)
    go_end0
    exact ⟨⟨_, rfl⟩, _, HB1.out, rfl⟩
  · have hz := hid (show (if (2 : Int) = 1 then x else if (2 : Int) = 2 then (y + x) % 16777216 else if (2 : Int) = 3 then (y - x) % 16777216 else prodOf y x) = (y + x) % 16777216 by simp)
    rw [hz.out]
    clear hz
    go_enter Try.func73, Try.ntmps73
    go_wp2
    go_quiet (fail)
    go_wp2_with (go_at_call 81; refine ((H2.out _ (b_drewN (b_alloc (Below.refl _ _) _) _)).mono ?_); rintro e w1 ⟨⟨u, rfl⟩, W1, hb1, rfl⟩; have HB1 := hid (b_call hb1 (b_drewN (b_alloc (Below.refl w.heap.size w) _) _)); clear hb1)
    go_end0
    exact ⟨⟨_, rfl⟩, _, HB1.out, rfl⟩
  · have hz := hid (show (if (3 : Int) = 1 then x else if (3 : Int) = 2 then (y + x) % 16777216 else if (3 : Int) = 3 then (y - x) % 16777216 else prodOf y x) = (y + -x) % 16777216 by simp; omega)
    rw [hz.out]
    clear hz
    go_enter Try.func73, Try.ntmps73
    go_wp2
    go_quiet (fail)
    go_wp2_with (go_at_call 81; refine ((H3.out _ (b_drewN (b_alloc (Below.refl _ _) _) _)).mono ?_); rintro e w1 ⟨⟨u, rfl⟩, W1, hb1, rfl⟩; have HB1 := hid (b_call hb1 (b_drewN (b_alloc (Below.refl w.heap.size w) _) _)); clear hb1)
    go_end0
    exact ⟨⟨_, rfl⟩, _, HB1.out, rfl⟩
  · have hz := hid (show (if (4 : Int) = 1 then x else if (4 : Int) = 2 then (y + x) % 16777216 else if (4 : Int) = 3 then (y - x) % 16777216 else prodOf y x) = prodOf y x by simp)
    rw [hz.out]
    clear hz
    go_enter Try.func73, Try.ntmps73
    go_wp2
    go_quiet (fail)
    go_wp2_with (go_at_call 82; refine ((H4.out _ (b_drewN (b_alloc (Below.refl _ _) _) _)).mono ?_); rintro e w1 ⟨⟨u, rfl⟩, W1, hb1, rfl⟩; have HB1 := hid (b_call hb1 (b_drewN (b_alloc (Below.refl w.heap.size w) _) _)); clear hb1)
    go_end0
    exact ⟨⟨_, rfl⟩, _, HB1.out, rfl⟩
end Go.Proofs.Ytbfhgcnfhjhgcaa
