/-
  OrderStore: what one deed changes.
-/
import Derived.Test.YtphbcljhfadmaaaLawC
import Derived.Test.YtphbcljhfadmaaaRunCap
namespace Go.Proofs.Ytphbcljhfadmaaa
open Go.RowKit
set_option linter.unusedVariables false
set_option linter.unusedSimpArgs false

theorem rowLen {W : World} {base t size n : Nat} {v : Value} {xs : List Value} (h : W.ownsRow base t size v n xs) : ∃ a c, v = .slice a n c := by
  rcases h.2 with ⟨e, h0⟩ | ⟨g, cap, cur, e, _⟩
  · subst h0; exact ⟨_, _, e⟩
  · exact ⟨_, _, e⟩
theorem rowOne {W : World} {base t size : Nat} {v : Value} {xs : List Value} (h : W.ownsRow base t size v 1 xs) : ∃ g c, v = .slice (some ⟨g, 0, none⟩) 1 c ∧ ∀ j u, xs[j]? = some u → W.cell? ⟨g, j, none⟩ = some u := by
  rcases h.2 with ⟨e, h0⟩ | ⟨g, cap, cur, e, r⟩
  · omega
  · subst e
    refine ⟨g, cap, rfl, fun j u hu => ?_⟩
    have := World.ownsRow.cells h (g := g) rfl j u hu
    have e : ((⟨g, 0, none⟩ : Addr).add j) = ⟨g, j, none⟩ := by unfold Addr.add; split <;> simp_all
    rwa [e] at this
theorem ints_addr {W : World} {a : Option Addr} {xs : List Int} (h : IntsAt W a xs) (h0 : 0 < xs.length) : ∃ b o, a = some ⟨b, o, none⟩ ∧ ∀ j, j < xs.length → W.cell? ⟨b, o + j, none⟩ = some (.int .i64 (xs[j]?.getD 0)) := by
  obtain ⟨b, o, e, _⟩ := h 0 h0
  refine ⟨b, o, e, fun j hj => ?_⟩
  obtain ⟨b', o', e', hc⟩ := h j hj
  rw [e] at e'
  injection e' with e'
  injection e' with e1 e2
  subst e1; subst e2
  exact hc
theorem ints_take {W : World} {a : Option Addr} {xs ys : List Int} (h : IntsAt W a (xs ++ ys)) : IntsAt W a xs := fun j hj => by
  obtain ⟨b, o, e, hc⟩ := h j (by simp; omega)
  refine ⟨b, o, e, hc.trans ?_⟩
  rw [List.getElem?_append_left hj]
theorem run1 (s : St) : St.run 1 s = if s.ends = 0 then s.step else s.stop := rfl
theorem trace1 (s : St) : St.trace 1 s = if s.ends = 0 then [s.stp] else [] := rfl
/-- What one deed changes. -/
theorem deed_parts (s : St) (o : Od) (ho : 0 ≤ o.to) (hl : s.store.length = 128) : ∃ S2 tk P ys, s.deed o = ⟨S2, s.tape, tk, P, s.time, s.at_, s.done, s.why⟩ ∧ S2.length = s.store.length ∧ P = s.printed ++ ys ∧
    (∀ k : Nat, k < 128 → s.store[k]?.getD 0 = S2[k]?.getD 0 ∨ (o.to = (k : Int) ∧ o.op ≠ 5 ∧ o.op ≠ 7)) ∧ ((o.op = 6 ∧ tk = s.taken + 1 ∧ ys = []) ∨ (o.op = 7 ∧ tk = s.taken ∧ ys.length = 1) ∨ (o.op ≠ 6 ∧ o.op ≠ 7 ∧ tk = s.taken ∧ ys = [])) := by
  have key : ∀ (v : Int) (k : Nat), k < 128 → s.store[k]?.getD 0 = (setI s.store o.to v)[k]?.getD 0 ∨ o.to = (k : Int) := fun v k hk => by
    by_cases e : o.to = (k : Int)
    · exact .inr e
    · left
      unfold setI
      rw [List.getElem?_set_ne (by omega)]
  unfold St.deed
  by_cases h1 : o.op = 1
  · rw [if_pos h1]; exact ⟨_, _, _, [], rfl, setI_len _ _ _, by simp, fun k hk => (key _ k hk).imp id (fun e => ⟨e, by omega, by omega⟩), .inr (.inr ⟨by omega, by omega, rfl, rfl⟩)⟩
  · rw [if_neg h1]
    by_cases h2 : o.op = 2
    · rw [if_pos h2]; exact ⟨_, _, _, [], rfl, setI_len _ _ _, by simp, fun k hk => (key _ k hk).imp id (fun e => ⟨e, by omega, by omega⟩), .inr (.inr ⟨by omega, by omega, rfl, rfl⟩)⟩
    · rw [if_neg h2]
      by_cases h3 : o.op = 3
      · rw [if_pos h3]; exact ⟨_, _, _, [], rfl, setI_len _ _ _, by simp, fun k hk => (key _ k hk).imp id (fun e => ⟨e, by omega, by omega⟩), .inr (.inr ⟨by omega, by omega, rfl, rfl⟩)⟩
      · rw [if_neg h3]
        by_cases h4 : o.op = 4
        · rw [if_pos h4]; exact ⟨_, _, _, [], rfl, setI_len _ _ _, by simp, fun k hk => (key _ k hk).imp id (fun e => ⟨e, by omega, by omega⟩), .inr (.inr ⟨by omega, by omega, rfl, rfl⟩)⟩
        · rw [if_neg h4]
          by_cases h6 : o.op = 6
          · rw [if_pos h6]; exact ⟨_, _, _, [], rfl, setI_len _ _ _, by simp, fun k hk => (key _ k hk).imp id (fun e => ⟨e, by omega, by omega⟩), .inl ⟨h6, rfl, rfl⟩⟩
          · rw [if_neg h6]
            by_cases h7 : o.op = 7
            · rw [if_pos h7]; exact ⟨_, _, _, _, rfl, rfl, rfl, fun k hk => .inl rfl, .inr (.inl ⟨h7, rfl, rfl⟩)⟩
            · rw [if_neg h7]; exact ⟨_, _, _, [], rfl, rfl, by simp, fun k hk => .inl rfl, .inr (.inr ⟨h6, h7, rfl, rfl⟩)⟩
end Go.Proofs.Ytphbcljhfadmaaa
