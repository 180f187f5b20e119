/-
  write, add, multiply, take, print: what an order does to the store, the tape and the paper.
-/
import Derived.ArgAppend
import Derived.OwnWalk
import Derived.Test.YtbfhgcnfhjhgcaaMac
namespace Go.Proofs.Ytbfhgcnfhjhgcaa
open Go.RowKit
set_option linter.unusedVariables false
set_option linter.unusedSimpArgs false

theorem mulBd {a b : Int} (ha : -8388608 ≤ a ∧ a ≤ 8388608) (hb : -8388608 ≤ b ∧ b ≤ 8388608) : -70368744177664 ≤ a * b ∧ a * b ≤ 70368744177664 := by
  have h1 : a.natAbs * b.natAbs ≤ 8388608 * 8388608 := Nat.mul_le_mul (by omega) (by omega)
  rw [← Int.natAbs_mul] at h1
  omega
/-- The call returns, and has written a number to a cell. -/
def Wrote (w : World) (g k : Nat) (v : Int) (e : Ending) (w' : World) : Prop := (∃ u, e = .returned u) ∧ ∃ W1, Below w.heap.size w W1 ∧ w' = W1.setCell ⟨g, k, none⟩ (.int .i64 v)
theorem setc {W : World} {b i g k : Nat} {v u : Value} (hne : b ≠ g) (h : W.cell? ⟨b, i, none⟩ = some v) : (W.setCell ⟨g, k, none⟩ u).cell? ⟨b, i, none⟩ = some v :=
  (World.cell?_setCell_other W ⟨g, k, none⟩ ⟨b, i, none⟩ u (by simp [Ne.symm hne])).trans h
set_option maxRecDepth 100000 in
set_option maxHeartbeats 4000000 in
theorem write_raw (b g ca kt : Nat) (num old : Int) (hkt : kt < 128) (hne : b ≠ g) (w : World) (c0 : w.cell? ⟨b, 0, none⟩ = some (.slice (some ⟨g, 0, none⟩) 128 ca)) (cg : w.cell? ⟨g, kt, none⟩ = some (.int .i64 old)) (fg : w.frozen? ⟨g, kt, none⟩ = false) :
    Calls Try.prog 80 #[.pointer (some ⟨b, 0, none⟩), .int .i64 (kt : Int), .int .i64 num] w (Wrote w g kt (num % 16777216)) := by
  have C0 := hid c0
  have CG := hid (show Cel w g kt _ from ⟨cg, fg⟩)
  have n0 : (0 : Int) ≤ (kt : Int) := by omega
  have n1 : (kt : Int) < 128 := by omega
  clear cg fg
  go_enter Try.func80, Try.ntmps80
  go_wp2
  go_region_held3 (fun w' => w'.cell? ⟨b, 0, none⟩ = some (.slice (some ⟨g, 0, none⟩) 128 ca))
    (first | exact setc hne (cell_later HB1.out C0.out) | exact cell_later HB1.out C0.out | exact C0.out)
    (first | (go_at_call 65; refine (parted24 num _).mono ?_; rintro e w1 ⟨rfl, hb1⟩; have HB1 := hid (b_call hb1 (show Below w.heap.size w _ from by (repeat (first | assumption | exact Below.refl _ _ | refine b_alloc ?_ _ | refine Below.drew ?_ | refine b_drewN ?_ _ | refine Below.setCell ?_ (by first | omega | (simp; done) | (simp; omega)) _ | refine b_call (by assumption) ?_)))); obtain ⟨cg, fg⟩ := CG.out.call HB1.out; clear hb1))
  all_goals
    go_wp2
    go_end0
    exact ⟨⟨_, rfl⟩, w1, HB1.out, rfl⟩
set_option maxRecDepth 100000 in
set_option maxHeartbeats 4000000 in
theorem add_raw (b g ca kt : Nat) (num y : Int) (hkt : kt < 128) (hne : b ≠ g) (hy : 0 ≤ y ∧ y ≤ 16777215) (hn : -16777216 ≤ num ∧ num ≤ 16777216) (w : World) (c0 : w.cell? ⟨b, 0, none⟩ = some (.slice (some ⟨g, 0, none⟩) 128 ca)) (cg : w.cell? ⟨g, kt, none⟩ = some (.int .i64 y)) (fg : w.frozen? ⟨g, kt, none⟩ = false) :
    Calls Try.prog 81 #[.pointer (some ⟨b, 0, none⟩), .int .i64 (kt : Int), .int .i64 num] w (Wrote w g kt ((y + num) % 16777216)) := by
  have HW := hid (write_raw b g ca kt (y + num) y hkt hne w c0 cg fg)
  have n0 : (0 : Int) ≤ (kt : Int) := by omega
  have n1 : (kt : Int) < 128 := by omega
  go_enter Try.func81, Try.ntmps81
  go_wp2_with (go_at_call 80; refine HW.out.mono ?_; rintro e w1 ⟨⟨u, rfl⟩, W1, hb, rfl⟩; have HB1 := hid hb; clear hb)
  go_end0
  exact ⟨⟨_, rfl⟩, _, HB1.out, rfl⟩
set_option maxRecDepth 100000 in
set_option maxHeartbeats 4000000 in
theorem multiply_raw (b g ca kt : Nat) (x y : Int) (hkt : kt < 128) (hne : b ≠ g) (hy : 0 ≤ y ∧ y ≤ 16777215) (hx : 0 ≤ x ∧ x ≤ 16777215) (w : World) (c0 : w.cell? ⟨b, 0, none⟩ = some (.slice (some ⟨g, 0, none⟩) 128 ca)) (cg : w.cell? ⟨g, kt, none⟩ = some (.int .i64 y)) (fg : w.frozen? ⟨g, kt, none⟩ = false) :
    Calls Try.prog 82 #[.pointer (some ⟨b, 0, none⟩), .int .i64 (kt : Int), .int .i64 x] w (Wrote w g kt (prodOf y x)) := by
  have bx := sgn_bd (w := x) hx
  have by' := sgn_bd (w := y) hy
  have hp := mulBd (a := sgn y) (b := sgn x) (by omega) (by omega)
  have HW := hid (write_raw b g ca kt (sgn y * sgn x / 8388608) y hkt hne w c0 cg fg)
  have n0 : (0 : Int) ≤ (kt : Int) := by omega
  have n1 : (kt : Int) < 128 := by omega
  go_enter Try.func82, Try.ntmps82
  go_wp2_with (first | (go_at_call 46; refine (signed_any _ (by omega) _).mono ?_; rintro e w' ⟨rfl, rfl⟩) | (go_at_call 80; refine HW.out.mono ?_; rintro e w1 ⟨⟨u, rfl⟩, W1, hb, rfl⟩; have HB1 := hid hb; clear hb))
  go_end0
  exact ⟨⟨_, rfl⟩, _, HB1.out, rfl⟩
set_option maxRecDepth 100000 in
set_option maxHeartbeats 4000000 in
theorem take_raw (b gt ct tl k : Nat) (x : Int) (hk : k < tl) (htl : tl ≤ 200) (w : World) (c1 : w.cell? ⟨b, 1, none⟩ = some (.slice (some ⟨gt, 0, none⟩) tl ct)) (c2 : w.cell? ⟨b, 2, none⟩ = some (.int .i64 (k : Int))) (f2 : w.frozen? ⟨b, 2, none⟩ = false) (cg : w.cell? ⟨gt, k, none⟩ = some (.int .i64 x)) :
    Calls Try.prog 79 #[.pointer (some ⟨b, 0, none⟩)] w fun e w' => e = .returned (.int .i64 x) ∧ ∃ W1, Below w.heap.size w W1 ∧ w' = W1.setCell ⟨b, 2, none⟩ (.int .i64 ((k : Int) + 1)) := by
  have n0 : (0 : Int) ≤ (k : Int) := by omega
  have n1 : (k : Int) < (tl : Int) := by omega
  go_enter Try.func79, Try.ntmps79
  go_wp2
  go_quiet (fail)
  go_wp2
  go_ret
  exact ⟨rfl, _, below_drewN _ _, rfl⟩
theorem oneNew (w : World) (x : Int) : ∀ (j : Nat) (u : Value), [Value.int IntKind.i64 x][j]? = some u → (w.alloc (.cells #[.int .i64 x] 3)).cell? ((⟨w.heap.size, 0, none⟩ : Addr).add j) = some u := by
  intro j u hj
  match j, hj with
  | 0, hj =>
    simp at hj
    subst hj
    exact (Cel.new w #[.int .i64 x] 3 0 _ rfl).1
/-- The call returns, and has put a number behind a row of the machine's own. -/
def Prnt (w : World) (base b : Nat) (a : Option Addr) (xs : List Int) (e : Ending) (w' : World) : Prop := (∃ u, e = .returned u) ∧ ∃ a' c' W1, w' = W1.setCell ⟨b, 3, none⟩ (.slice a' xs.length c') ∧ W1.ownsRow base 3 1 (.slice a' xs.length c') xs.length (xs.map (Value.int .i64)) ∧ w.grownBy W1 (blkOf a) ∧ (∀ r, blkOf a' = some r → blkOf a = some r ∨ w.heap.size ≤ r)
theorem grown_alloc {w W1 : World} {o : Obj} {r : Option Nat} (h : (w.alloc o).grownBy W1 r) : w.grownBy W1 r :=
  ⟨h.os, h.tape, h.output, by have := h.size; simp at this; omega, fun k hk hne => (h.block k (by simp; omega) hne).trans (Below.heap_alloc w o k (by omega))⟩
set_option maxRecDepth 100000 in
set_option maxHeartbeats 4000000 in
theorem print_raw (b base c : Nat) (a : Option Addr) (to_ x : Int) (xs : List Int) (hl : xs.length ≤ 200) (w : World) (c3 : w.cell? ⟨b, 3, none⟩ = some (.slice a xs.length c)) (f3 : w.frozen? ⟨b, 3, none⟩ = false) (hown : w.ownsRow base 3 1 (.slice a xs.length c) xs.length (xs.map (Value.int .i64))) (hbs : base ≤ w.heap.size) (hne : blkOf a ≠ some b) (hbl : b < w.heap.size) :
    Calls Try.prog 83 #[.pointer (some ⟨b, 0, none⟩), .int .i64 to_, .int .i64 x] w (Prnt w base b a (xs ++ [x])) := by
  obtain ⟨iI, hiI, hzI0, hzI1, hzI2⟩ := info_parts infoI
  have CB := hid (show Cel w b 3 _ from ⟨c3, f3⟩)
  have HO := hid hown
  have hcx := (ints1' w x _ rfl) 0 (by simp)
  have HX := hid hcx
  have HA := hid (hown.alloc (.cells #[.int .i64 x] 3))
  have HNE := hid hne
  clear hown hcx hne
  by_cases hf : xs.length + 1 ≤ c
  · have ha : ∃ g, a = some ⟨g, 0, none⟩ := by
      rcases HO.out.2 with ⟨e, e2⟩ | ⟨g, cap, cur, e, r⟩
      · simp at e; omega
      · simp at e; exact ⟨g, e.1⟩
    obtain ⟨g, rfl⟩ := ha
    go_enter Try.func83, Try.ntmps83
    go_wp2_with (at_builtin; refine wpList_append_fits _ rfl _ _ 35 rfl base 3 iI 1 Try.underlying35 hiI hzI1 g xs.length c (xs.map (Value.int .i64)) rfl HA.out ⟨w.heap.size, 0, none⟩ 1 1 [.int .i64 x] rfl rfl ?q1 ?q2 hf ?_)
    case q1 => exact oneNew w x
    case q2 => intro u hu; rcases List.mem_singleton.1 hu with rfl; rfl
    intro w1 hown1 hg1
    have hg := grown_alloc hg1
    obtain ⟨c3, f3⟩ := CB.out.grown hg (fun r e => by cases e; intro e2; exact HNE.out (by rw [e2]; rfl))
    have HO1 := hid hown1
    have HG := hid hg
    clear hown1 hg1 hg
    go_wp2
    go_end0
    exact ⟨⟨_, rfl⟩, some ⟨g, 0, none⟩, c, w1, by simp, by simpa using HO1.out, HG.out, fun r e => .inl e⟩
  · have hnone : a = none → xs.length = 0 ∧ c = 0 := fun e => by
      subst e
      rcases HO.out.2 with ⟨e, e2⟩ | ⟨g, cap, cur, e, r⟩
      · simp at e; exact ⟨e2, e.2⟩
      · simp at e
    have holds : ∀ b', a = some b' → ∀ j u, (xs.map (Value.int .i64))[j]? = some u → (w.alloc (.cells #[.int .i64 x] 3)).cell? (b'.add j) = some u := fun b' e j u hu => by
      subst e
      rcases HA.out.2 with ⟨e, e2⟩ | ⟨g, cap, cur, e, r⟩
      · simp at e
      · have := World.ownsRow.cells HA.out (g := g) (by simp at e; rw [e.1]; rfl) j u hu
        simp at e
        rw [e.1]
        exact this
    have HN := hid hnone
    have HH := hid holds
    clear hnone holds
    go_enter Try.func83, Try.ntmps83
    go_wp2_with (at_builtin; refine wpList_append_grows _ rfl _ _ 35 rfl 3 iI (.int .i64 0) 1 8 Try.underlying35 hiI hzI0 hzI1 hzI2 rfl (by decide) a xs.length c (xs.map (Value.int .i64)) rfl HN.out (by simp) HH.out ⟨w.heap.size, 0, none⟩ 1 1 [.int .i64 x] rfl rfl ?q1 ?q2 (by omega) ?q3 (by omega) ?_)
    case q1 => exact oneNew w x
    case q2 => intro u hu; rcases List.mem_singleton.1 hu with rfl; rfl
    case q3 => unfold maxLen; omega
    intro v' w1 hown1 hg1
    have hg := grown_alloc hg1
    obtain ⟨c3, f3⟩ := CB.out.grown hg (fun r e => by cases e)
    have hro : w1.ownsRow (w.heap.size + 1) 3 1 v' (xs ++ [x]).length ((xs ++ [x]).map (Value.int .i64)) := by simpa using hown1
    obtain ⟨a', c', rfl, _⟩ := rowInts rfl hro
    have HO1 := hid hro
    have HG := hid hg
    clear hown1 hg1 hg hro
    go_wp2
    go_end0
    refine ⟨⟨_, rfl⟩, a', c', w1, by simp, ownsRow_low HO1.out (by omega), ⟨HG.out.os, HG.out.tape, HG.out.output, HG.out.size, fun k hk _ => HG.out.block k hk (by simp)⟩, fun r e => .inr ?_⟩
    have := HO1.out.lt r (by rw [own_slice]; exact e)
    omega
end Go.Proofs.Ytbfhgcnfhjhgcaa
