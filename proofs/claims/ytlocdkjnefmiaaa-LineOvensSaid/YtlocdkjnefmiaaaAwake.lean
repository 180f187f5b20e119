/-
  Awake: some calls at the document's examples.
-/
import Derived.Laws.BytesArg
import Derived.Test.YtlocdkjnefmiaaaOvenMain
import Derived.Test.YtlocdkjnefmiaaaGPass
import Derived.Test.YtlocdkjnefmiaaaName
import Derived.Test.YtlocdkjnefmiaaaFile
namespace Go.Proofs.Ytlocdkjnefmiaaa
open Go.RowKit
set_option linter.unusedVariables false
set_option linter.unusedSimpArgs false

/-- The line and the oven of the examples. -/
def lnA : Ln := ⟨4, 8, 10, 320, 1, 3⟩
def ovA : Ov := ⟨20, 30, (2, 4), (1, 3)⟩
theorem lnA_ok : lnA.Ok := by unfold Ln.Ok lnA; decide
theorem celOf {W : World} {b : Nat} {cs : Array Value} {t : TypeId} (h : W.heap[b]? = some (.cells cs t)) (k : Nat) (v : Value) (e : cs[k]? = some v) : Cel W b k v := ⟨by simp [World.cell?, h, e], by simp [World.frozen?, h]⟩
set_option maxHeartbeats 400000 in
theorem Line_any (w : World) : Calls Try.prog 44 #[] w (Ret w lnA.val) := by
  go_enter Try.func44, Try.ntmps44
  go_wp2
  exact bodyPost_ret (v := lnA.val) (by simp [results, Try.results44, go_sem, lnA]) rfl ⟨rfl, by (repeat (first | assumption | exact Below.refl _ _ | refine b_alloc ?_ _ | refine Below.drew ?_ | refine b_drewN ?_ _ | refine Below.setCell ?_ (by first | omega | (simp; done) | (simp; omega)) _ | refine b_call (by assumption) ?_))⟩
set_option maxHeartbeats 400000 in
theorem span_any (lo hi : Int) (w : World) : Calls Try.prog 45 #[.int .i64 lo, .int .i64 hi] w (Ret w (.agg #[.int .i64 lo, .int .i64 hi])) := by
  go_enter Try.func45, Try.ntmps45
  go_wp2
  exact bodyPost_ret (v := .agg #[.int .i64 lo, .int .i64 hi]) (by simp [results, Try.results45, go_sem]) rfl ⟨rfl, by (repeat (first | assumption | exact Below.refl _ _ | refine b_alloc ?_ _ | refine Below.drew ?_ | refine b_drewN ?_ _ | refine Below.setCell ?_ (by first | omega | (simp; done) | (simp; omega)) _ | refine b_call (by assumption) ?_))⟩
set_option maxHeartbeats 400000 in
set_option maxRecDepth 100000 in
theorem lawOven_any (w : World) : Calls Try.prog 46 #[] w (Ret w ovA.val) := by
  go_enter Try.func46, Try.ntmps46
  have H0 : (w.alloc (.cells #[.int .i64 0, .int .i64 0, .int .i64 0, .int .i64 0, .int .i64 0, .int .i64 0] 50)).heap[w.heap.size]? = some (.cells #[.int .i64 0, .int .i64 0, .int .i64 0, .int .i64 0, .int .i64 0, .int .i64 0] 50) := World.alloc_heap_new _ _
  have HH0 := hid H0
  clear H0
  go_wp2_with (first
    | (go_at_call 45; refine (span_any 2 4 _).mono ?_; rintro e w1 ⟨rfl, hb1⟩; have hB1 := hid (show Below w.heap.size w w1 by (repeat (first | assumption | exact Below.refl _ _ | refine b_alloc ?_ _ | refine Below.drew ?_ | refine b_drewN ?_ _ | refine Below.setCell ?_ (by first | omega | (simp; done) | (simp; omega)) _ | refine b_call (by assumption) ?_))); have HH1 := hid ((hb1.block w.heap.size (by simp)).trans HH0.out); clear hb1)
    | (go_at_call 45; refine (span_any 1 3 _).mono ?_; rintro e w2 ⟨rfl, hb2⟩; have hB2 := hid (b_call hb2 hB1.out); have HH2 := hid ((hb2.block w.heap.size (Array.getElem?_eq_some_iff.1 HH1.out).1).trans HH1.out); clear hb2; have c0 := (celOf HH2.out 0 _ rfl).1; have c1 := (celOf HH2.out 1 _ rfl).1; have c2 := (celOf HH2.out 2 _ rfl).1; have c3 := (celOf HH2.out 3 _ rfl).1; have c4 := (celOf HH2.out 4 _ rfl).1; have c5 := (celOf HH2.out 5 _ rfl).1; have f0 := (celOf HH2.out 0 _ rfl).2; have f1 := (celOf HH2.out 1 _ rfl).2; have f2 := (celOf HH2.out 2 _ rfl).2; have f3 := (celOf HH2.out 3 _ rfl).2; have f4 := (celOf HH2.out 4 _ rfl).2; have f5 := (celOf HH2.out 5 _ rfl).2))
  refine bodyPost_ret (v := ovA.val) ?_ rfl ⟨rfl, by first | exact ((((((hB2.out.setCell (p := ⟨w.heap.size, 0, none⟩) (Nat.le_refl _) _).setCell (p := ⟨w.heap.size, 1, none⟩) (Nat.le_refl _) _).setCell (p := ⟨w.heap.size, 2, none⟩) (Nat.le_refl _) _).setCell (p := ⟨w.heap.size, 3, none⟩) (Nat.le_refl _) _).setCell (p := ⟨w.heap.size, 4, none⟩) (Nat.le_refl _) _).setCell (p := ⟨w.heap.size, 5, none⟩) (Nat.le_refl _) _) | (repeat (first | assumption | exact Below.refl _ _ | refine b_alloc ?_ _ | refine Below.drew ?_ | refine b_drewN ?_ _ | refine Below.setCell ?_ (by first | omega | (simp; done) | (simp; omega)) _ | refine b_call (by assumption) ?_))⟩
  simp [results, Try.results46, go_sem, ovA, c0, c1, c2, c3, c4, c5]

theorem aShift (w : World) : Calls Try.prog 23 #[lnA.val, .int .i64 (-8)] w (Ret w (.tuple #[.int .i64 (-1), .bool false, .int .i64 0])) := by
  have h := Shift_any lnA (-8) w
  rw [show lnA.shiftV (-8) = .tuple #[.int .i64 (-1), .bool false, .int .i64 0] from by kernel_rfl] at h
  exact h
theorem aNone (w : World) : Calls Try.prog 23 #[lnA.val, .int .i64 1001] w (Ret w (.tuple #[.int .i64 0, .bool false, .int .i64 7])) := by
  have h := Shift_any lnA 1001 w
  rw [show lnA.shiftV 1001 = .tuple #[.int .i64 0, .bool false, .int .i64 7] from by kernel_rfl] at h
  exact h
theorem aNext (w : World) : Calls Try.prog 34 #[lnA.val, .int .i64 2, .int .i64 16] w (Ret w (.tuple #[.int .i64 48, .int .i64 0])) := by
  have h := Next_any lnA 2 16 w
  rw [show nextV lnA 2 16 = .tuple #[.int .i64 48, .int .i64 0] from by kernel_rfl] at h
  exact h
theorem aOven (w : World) : Calls Try.prog 36 #[ovA.val, spanV (25, 25), .bool false, .int .i64 3] w (Ret w (.tuple #[.agg #[.int .i64 17, .int .i64 25], .int .i64 0])) := by
  have h := Oven_ok ovA (25, 25) false 3 (by decide) w
  rw [show ovEnds ovA (25, 25) false 3 = (17, 25, true) from by kernel_rfl] at h
  exact h
theorem aPass (a b : Option Addr) (ca cb : Nat) (w : World) (hx : IntsAt w a [1, 128, 0, 255]) (hy : IntsAt w b [8]) : Calls Try.prog 29 #[lnA.val, .slice a 4 ca, .slice b 1 cb] w (RetP w [3, 0, 1, 254] (-1)) :=
  Pass_ok lnA lnA_ok 4 8 rfl rfl a b ca cb [1, 128, 0, 255] [8] rfl (by decide) (by decide) (by decide) w hx hy _ _ (fun _ => ⟨by decide, rfl⟩) (fun k hk _ hl => by
    have hk1 : k = 0 := by simpa using hk
    subst hk1
    exact absurd hl (by decide))
theorem aWrite (a : Option Addr) (cap : Nat) (w : World) (hx : IntsAt w a [1, 128, 0, 255]) : Calls Try.prog 40 #[lnA.val, .slice a 4 cap] w fun e w' => ∃ g c, e = .returned (.tuple #[.slice (some ⟨g, 0, none⟩) 9 c, .int .i64 0]) ∧ w'.ownsRow w.heap.size 5 1 (.slice (some ⟨g, 0, none⟩) 9 c) 9 ([77, 76, 4, 8, 1, 128, 0, 255, 219].map (Value.int .u8)) ∧ Below w.heap.size w w' := by
  have h := Write_ok lnA lnA_ok a cap [1, 128, 0, 255] rfl (by decide) w hx
  rw [show fileOf lnA [1, 128, 0, 255] = [77, 76, 4, 8, 1, 128, 0, 255, 219] from by kernel_rfl] at h
  exact h
theorem aName1 (w : World) : Calls Try.prog 20 #[.string { data := #[97, 95, 49] }] w (Ret w (.bool true)) := by
  have h := Name_any { data := #[97, 95, 49] } w
  rw [show decide (NameOk { data := #[97, 95, 49] }) = true from by kernel_rfl] at h
  exact h
theorem aName2 (w : World) : Calls Try.prog 20 #[.string { data := #[97, 95] }] w (Ret w (.bool false)) := by
  have h := Name_any { data := #[97, 95] } w
  rw [show decide (NameOk { data := #[97, 95] }) = false from by kernel_rfl] at h
  exact h
theorem pair_of {ns : List Nat} (h : ns.Pairwise (· < ·)) (hm : ∀ n, n ∈ ns ↔ n = 0 ∨ n = 1) : ns = [0, 1] := by
  rcases ns with _ | ⟨a, _ | ⟨b, _ | ⟨c, r⟩⟩⟩
  · have := (hm 0).2 (.inl rfl); simp at this
  · have h0 := (hm 0).2 (.inl rfl); have h1 := (hm 1).2 (.inr rfl); simp at h0 h1; omega
  · have h0 := (hm 0).2 (.inl rfl); have h1 := (hm 1).2 (.inr rfl); simp at h0 h1 h; rcases h0 with rfl | rfl <;> rcases h1 with h1 | h1 <;> first | omega | (subst h1; first | rfl | omega)
  · have ha := (hm a).1 (by simp); have hb := (hm b).1 (by simp); have hc := (hm c).1 (by simp); simp at h; omega
theorem aCan (a : Option Addr) (ca : Nat) (w : World) (hx : SpansAt w a [(0, 8)]) : Calls Try.prog 32 #[lnA.val, .slice a 1 ca] w fun e w' => ∃ b c, e = .returned (.tuple #[.agg #[.slice b 2 c, .bool true], .int .i64 0]) ∧ IntsAt w' b [0, 1] ∧ Below w.heap.size w w' := by
  have h := Can_ok lnA lnA_ok 32 rfl a ca [(0, 8)] (by decide) (by decide) w hx
  refine h.mono ?_
  rintro e w' ⟨v, ns, rfl, hrow, hmem, hsort, hb⟩
  have hw : ∀ s : Nat, within' lnA 0 9 (s : Int) false = true ↔ s = 0 ∨ s = 1 := by
    intro s
    constructor
    · intro h1
      have h2 := within'_bd lnA_ok h1
      have h3 : s < 32 := by have := h2.2; unfold lnA at this; simp at this; omega
      revert h1
      have : ∀ s : Nat, s < 32 → within' lnA 0 9 (s : Int) false = true → s = 0 ∨ s = 1 := by decide
      exact this s h3
    · rintro (rfl | rfl) <;> kernel_rfl
  have hns : ns = [0, 1] := pair_of hsort fun n => by
    rw [hmem n]
    show (∃ s m : Nat, within' lnA 0 (spanN (0, 8)) s false = true ∧ m = 0 ∧ n = (m + s) % 32) ↔ _
    rw [show spanN (0, 8) = 9 from rfl]
    constructor
    · rintro ⟨s, m, h1, rfl, rfl⟩
      rcases (hw s).1 h1 with rfl | rfl <;> simp
    · rintro (rfl | rfl)
      · exact ⟨0, 0, (hw 0).2 (.inl rfl), rfl, rfl⟩
      · exact ⟨1, 0, (hw 1).2 (.inr rfl), rfl, rfl⟩
  subst hns
  obtain ⟨b, c, rfl, hi, _⟩ := rowInts hrow
  exact ⟨b, c, by kernel_rfl, hi, hb⟩
end Go.Proofs.Ytlocdkjnefmiaaa
