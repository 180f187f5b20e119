/-
  Traces in memory, and what a round of OrderCut looks at.
-/
import Derived.Test.YtbfhgcnfhjhgcaaCutMath
import Derived.Test.YtbfhgcnfhjhgcaaLawC
namespace Go.Proofs.Ytbfhgcnfhjhgcaa
open Go.RowKit
set_option linter.unusedVariables false
set_option linter.unusedSimpArgs false

theorem when_fol {o : Od} {t : Int} (ho : o.Ok) (ht : Tm t) (h0 : o.op ≠ 0) : whenErr o t = 0 := by unfold whenErr; rw [if_pos ⟨ho, ht⟩, if_neg h0]
theorem when_val {o : Od} {t : Int} (e : whenErr o t = 0) (neg : Bool) : whenOf o t neg = folOf o t neg := by unfold whenOf; rw [if_pos e]
theorem stps_get : ∀ (xs : List Stp) (k i : Nat) (x : Stp) (u : Value), xs[k]? = some x → (stpC x)[i]? = some u → (stpsC xs)[7 * k + i]? = some u
  | [], k, i, x, u, h, _ => by simp at h
  | y :: ys, 0, i, x, u, h, hu => by
    simp at h
    subst h
    have hi : i < (stpC y).length := (List.getElem?_eq_some_iff.1 hu).1
    show (stpC y ++ stpsC ys)[7 * 0 + i]? = some u
    rw [Nat.mul_zero, Nat.zero_add, List.getElem?_append_left hi]
    exact hu
  | y :: ys, k + 1, i, x, u, h, hu => by
    have hy : (stpC y).length = 7 := rfl
    show (stpC y ++ stpsC ys)[7 * (k + 1) + i]? = some u
    rw [List.getElem?_append_right (by rw [hy]; omega), hy, show 7 * (k + 1) + i - 7 = 7 * k + i by omega]
    exact stps_get ys k i x u (by simpa using h) hu
theorem stps_at (xs : List Stp) (k i j : Nat) (x : Stp) (u : Value) (hj : j = k * 7 + i) (h : xs[k]? = some x) (hu : (stpC x)[i]? = some u) : (stpsC xs)[j]? = some u := by
  have := stps_get xs k i x u h hu
  rwa [show 7 * k + i = j by omega] at this
theorem rowLen' {W : World} {base t size n : Nat} {v : Value} {xs : List Value} (h : W.ownsRow base t size v n xs) : ∃ a c, v = .slice a n c := by
  rcases h.2 with ⟨e, h0⟩ | ⟨g, cap, cur, e, _⟩
  · subst h0; exact ⟨_, _, e⟩
  · exact ⟨_, _, e⟩
theorem rowMany {W : World} {base t size n : Nat} {v : Value} {xs : List Value} (h : W.ownsRow base t size v n xs) (hn : 0 < n) : ∃ g c, v = .slice (some ⟨g, 0, none⟩) n c ∧ ∀ j u, xs[j]? = some u → W.cell? ⟨g, j, none⟩ = some u := by
  rcases h.2 with ⟨e, h0⟩ | ⟨g, cap, cur, e, r⟩
  · omega
  · subst e
    refine ⟨g, cap, rfl, fun j u hu => ?_⟩
    have := World.ownsRow.cells h (g := g) rfl j u hu
    have e : ((⟨g, 0, none⟩ : Addr).add j) = ⟨g, j, none⟩ := by unfold Addr.add; split <;> simp_all
    rwa [e] at this
/-- What OrderCut looks at in a trace: places and times of the run, and its steps. -/
structure CutAll (s u : St) (l : List Stp) (f g : Nat → Int) : Prop where
  f0 : f 0 = s.at_
  g0 : g 0 = s.time
  fl : f l.length = u.at_
  gl : g l.length = u.time
  st : ∀ k, k < l.length → ∃ op fr tt nx : Int, l[k]? = some ⟨f k, ⟨op, fr, tt, nx⟩, g k, g (k + 1)⟩ ∧ whenErr ⟨op, fr, tt, nx⟩ (g k) = 0 ∧ g k < g (k + 1) ∧ ∃ neg, folOf ⟨op, fr, tt, nx⟩ (g k) neg = (f (k + 1), g (k + 1))
  bd : ∀ k, k ≤ l.length → (0 ≤ f k ∧ f k ≤ 127) ∧ 0 ≤ g k ∧ g k ≤ 1000000000
theorem cut_all {s : St} (hs : SOk s) (n : Nat) : CutAll s (St.run n s) (St.trace n s) (fun k => (St.run k s).at_) (fun k => (St.run k s).time) := by
  obtain ⟨p1, p2⟩ := run_past n s hs
  refine ⟨rfl, rfl, p1, p2, fun k hk => ?_, fun k hk => ?_⟩
  · obtain ⟨hok, he, hg, hr⟩ := trace_get n s k hk hs
    obtain ⟨e1, e2, e3, e4, e5⟩ := ends_zero he
    have ho := hok.od
    obtain ⟨q1, q2, q3, q4⟩ := fol_spec ho (St.run k s).time (St.run k s).neg
    have ht : Tm (St.run k s).time := hok.num.2.1
    have ea : (St.run (k + 1) s).at_ = (St.run k s).nxt.1 := by rw [hr]; rfl
    have et : (St.run (k + 1) s).time = (St.run k s).nxt.2 := by rw [hr]; rfl
    refine ⟨(St.run k s).od.op, (St.run k s).od.fr, (St.run k s).od.to, (St.run k s).od.nx, ?_, when_fol ho ht e2, ?_, (St.run k s).neg, ?_⟩
    · rw [hg]; show _ = some (Stp.mk _ _ _ _); rw [et]; rfl
    · show (St.run k s).time < (St.run (k + 1) s).time; rw [et]; exact q2
    · show (St.run k s).nxt = ((St.run (k + 1) s).at_, (St.run (k + 1) s).time); rw [ea, et]
  · obtain ⟨_, n2, n3, _⟩ := (run_ok k hs).num
    exact ⟨n3, n2⟩
end Go.Proofs.Ytbfhgcnfhjhgcaa
