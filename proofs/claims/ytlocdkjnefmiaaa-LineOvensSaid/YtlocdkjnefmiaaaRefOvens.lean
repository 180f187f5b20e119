/-
  The reference's lists of climates, minute by minute (mathematics), and Oven, Keeps where the arguments are bad.
-/
import Derived.Test.YtlocdkjnefmiaaaRefMinute
import Derived.Test.YtlocdkjnefmiaaaRefOven
import Derived.Test.YtlocdkjnefmiaaaGKeeps
namespace Go.Proofs.Ytlocdkjnefmiaaa
open Go.RowKit
set_option linter.unusedVariables false
set_option linter.unusedSimpArgs false

/-- The climates after m minutes, as the reference lists them. -/
def rlist (o : Ov) (s : Int × Int) (h : Bool) : Nat → List Cl
  | 0 => spread s.1 h (s.2 - s.1 + 1).toNat
  | m + 1 => doneL o (rlist o s h m) (rlist o s h m).length
theorem mem_rlist {o : Ov} (ho : o.Ok) {s : Int × Int} (hs : s.1 ≤ s.2) {h : Bool} : ∀ (m : Nat) (c : Cl), c ∈ rlist o s h m ↔ CanBe o s h m c
  | 0, c => by
    rw [rlist, mem_spread]
    constructor
    · rintro ⟨a, b, e⟩
      obtain ⟨t, g⟩ := c
      simp only at a b e
      subst e
      exact .start a (by omega)
    · intro hc
      cases hc with
      | start a b => exact ⟨a, by simp only; omega, rfl⟩
  | m + 1, c => by
    rw [rlist, mem_done ho]
    constructor
    · rintro ⟨d, hd, hc⟩; exact .step ((mem_rlist ho hs m d).1 hd) hc
    · intro hc
      cases hc with
      | step a b => exact ⟨_, (mem_rlist ho hs m _).2 a, b⟩
theorem rlist_once {o : Ov} (ho : o.Ok) {s : Int × Int} (h1 : -500 ≤ s.1) (h2 : s.2 ≤ 1000) {h : Bool} : ∀ m, Once (rlist o s h m)
  | 0 => by
    refine ⟨?_, fun c hc => ?_⟩
    · rw [rlist, spread]
      exact List.Pairwise.map _ (fun a b (hab : a ≠ b) e => hab (by simp at e; omega)) List.nodup_range
    · rw [rlist, mem_spread] at hc
      exact ⟨by omega, by omega⟩
  | m + 1 => done_once ho (rlist_once ho h1 h2 m).2 _ (Nat.le_refl _)
/-- What the reference's Keeps answers. -/
def rkeeps (l : Ln) (o : Ov) (s : Int × Int) (h : Bool) (m : Int) (v : Int) : Prop :=
  (v = -1 ∧ ∀ (j : Nat) (c : Cl), (j : Int) ≤ m → CanBe o s h j c → l.bad c.1 = false) ∨
  (0 ≤ v ∧ v ≤ m ∧ (∃ c, CanBe o s h v.toNat c ∧ l.bad c.1 = true) ∧ ∀ (j : Nat) (c : Cl), (j : Int) < v → CanBe o s h j c → l.bad c.1 = false)
end Go.Proofs.Ytlocdkjnefmiaaa
