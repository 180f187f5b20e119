/-
  What an oven can come to, minute by minute; what Oven and Keeps say of it.
-/
import Derived.Test.YtggkhddficmnfaaKeepsMain
import Derived.Test.YtggkhddficmnfaaSafeMath
namespace Go.Proofs.Ytggkhddficmnfaa
set_option linter.unusedVariables false
set_option linter.unusedSimpArgs false

/-- The climate can be after so many minutes. -/
inductive CanBe (o : Ov) (s : Int × Int) (h : Bool) : Nat → Cl → Prop
  | start {t : Int} (h1 : s.1 ≤ t) (h2 : t ≤ s.2) : CanBe o s h 0 (t, h)
  | step {j : Nat} {c d : Cl} (h1 : CanBe o s h j c) (h2 : d ∈ stepsOf o c) : CanBe o s h (j + 1) d
theorem CanBe.wider {o : Ov} {s s' : Int × Int} {h : Bool} {j : Nat} {c : Cl} (hc : CanBe o s h j c) (h1 : s'.1 ≤ s.1) (h2 : s.2 ≤ s'.2) : CanBe o s' h j c := by
  induction hc with
  | start a b => exact .start (by omega) (by omega)
  | step _ b ih => exact .step ih b
theorem mem_spread {lo : Int} {h : Bool} {k : Nat} {c : Cl} : c ∈ spread lo h k ↔ lo ≤ c.1 ∧ c.1 < lo + (k : Int) ∧ c.2 = h := by
  unfold spread
  rw [List.mem_map]
  constructor
  · rintro ⟨j, hj, rfl⟩
    have := List.mem_range.1 hj
    exact ⟨by simp only; omega, by simp only; omega, rfl⟩
  · rintro ⟨a, b, e⟩
    obtain ⟨t, g⟩ := c
    simp only at a b e
    exact ⟨(t - lo).toNat, List.mem_range.2 (by omega), by rw [e]; congr 1; omega⟩
theorem mem_steps {o : Ov} {c d : Cl} : d ∈ stepsOf o c ↔ lowAt o c ≤ d.1 ∧ d.1 ≤ highAt o c ∧ d.2 = heatsAt o c := by
  unfold stepsOf manyAt
  rw [mem_spread]
  constructor
  · rintro ⟨a, b, e⟩; exact ⟨a, by omega, e⟩
  · rintro ⟨a, b, e⟩; exact ⟨a, by omega, e⟩
theorem mem_add1 {st : Cls} {c d : Cl} : (d ∈ (add1 st c).1 ↔ d ∈ st.1 ∨ (d = c ∧ c ∉ st.2)) ∧ (d ∈ (add1 st c).2 ↔ d ∈ st.2 ∨ d = c) := by
  unfold add1
  split
  · rename_i h
    refine ⟨⟨.inl, fun g => g.elim id (fun g => absurd h g.2)⟩, ⟨.inl, fun g => g.elim id (fun g => g ▸ h)⟩⟩
  · rename_i h
    simp [h]
theorem mem_meet (cs : List Cl) : ∀ (st : Cls) (d : Cl), (d ∈ (meetL st cs).1 ↔ d ∈ st.1 ∨ (d ∈ cs ∧ d ∉ st.2)) ∧ (d ∈ (meetL st cs).2 ↔ d ∈ st.2 ∨ d ∈ cs) := by
  induction cs with
  | nil => intro st d; simp [meetL]
  | cons c cs ih =>
    intro st d
    have h := ih (add1 st c) d
    have a := @mem_add1 st c d
    have e : meetL st (c :: cs) = meetL (add1 st c) cs := rfl
    rw [e, h.1, h.2, a.1, a.2]
    constructor
    · constructor
      · rintro ((g | ⟨rfl, g⟩) | ⟨g, k⟩)
        · exact .inl g
        · exact .inr ⟨by simp, g⟩
        · exact .inr ⟨by simp [g], fun x => k (.inl x)⟩
      · rintro (g | ⟨g, k⟩)
        · exact .inl (.inl g)
        · by_cases e : d = c
          · subst e; exact .inl (.inr ⟨rfl, k⟩)
          · rcases List.mem_cons.1 g with g | g
            · exact absurd g e
            · exact .inr ⟨g, fun x => x.elim k e⟩
    · simp only [List.mem_cons]
      constructor
      · rintro ((g | g) | g)
        · exact .inl g
        · exact .inr (.inl g)
        · exact .inr (.inr g)
      · rintro (g | g | g)
        · exact .inl (.inl g)
        · exact .inl (.inr g)
        · exact .inr g
/-- The first k minutes as the code follows them. -/
theorem state_is (o : Ov) (s : Int × Int) (h : Bool) (K : Nat) (hK : s.1 + (K : Int) = s.2 + 1) : ∀ (k : Nat) (c : Cl),
    (c ∈ (stateAt o (beginL s.1 h K) k).1 ↔ CanBe o s h k c ∧ ∀ j, j < k → ¬ CanBe o s h j c) ∧ (c ∈ (stateAt o (beginL s.1 h K) k).2 ↔ ∃ j, j ≤ k ∧ CanBe o s h j c)
  | 0, c => by
    have h0 : CanBe o s h 0 c ↔ s.1 ≤ c.1 ∧ c.1 ≤ s.2 ∧ c.2 = h := by
      constructor
      · intro g; cases g with | start a b => exact ⟨a, b, rfl⟩
      · rintro ⟨a, b, e⟩; obtain ⟨t, g⟩ := c; simp only at a b e; subst e; exact .start a b
    have hm := mem_meet (spread s.1 h K) ([], []) c
    rw [mem_spread] at hm
    show (c ∈ (beginL s.1 h K).1 ↔ _) ∧ (c ∈ (beginL s.1 h K).2 ↔ _)
    unfold beginL
    rw [hm.1, hm.2, h0]
    constructor
    · constructor
      · rintro (g | ⟨⟨a, b, e⟩, _⟩)
        · cases g
        · exact ⟨⟨a, by omega, e⟩, fun j hj => by omega⟩
      · rintro ⟨⟨a, b, e⟩, _⟩; exact .inr ⟨⟨a, by omega, e⟩, by simp⟩
    · constructor
      · rintro (g | ⟨a, b, e⟩)
        · cases g
        · exact ⟨0, Nat.le_refl _, h0.2 ⟨a, by omega, e⟩⟩
      · rintro ⟨j, hj, g⟩
        obtain rfl : j = 0 := by omega
        obtain ⟨a, b, e⟩ := h0.1 g
        exact .inr ⟨a, by omega, e⟩
  | k + 1, d => by
    have ih := state_is o s h K hK k
    have hm := mem_meet ((stateAt o (beginL s.1 h K) k).1.flatMap (stepsOf o)) ([], (stateAt o (beginL s.1 h K) k).2) d
    show (d ∈ (nextL o (stateAt o (beginL s.1 h K) k)).1 ↔ _) ∧ (d ∈ (nextL o (stateAt o (beginL s.1 h K) k)).2 ↔ _)
    unfold nextL
    rw [hm.1, hm.2]
    have hnew : d ∈ (stateAt o (beginL s.1 h K) k).1.flatMap (stepsOf o) → CanBe o s h (k + 1) d := by
      intro g
      obtain ⟨c, hc, hd⟩ := List.mem_flatMap.1 g
      exact .step ((ih c).1.1 hc).1 hd
    have hstep : CanBe o s h (k + 1) d → d ∈ (stateAt o (beginL s.1 h K) k).1.flatMap (stepsOf o) ∨ ∃ j, j ≤ k ∧ CanBe o s h j d := by
      intro g
      cases g with
      | @step _ c _ h1 h2 =>
        by_cases hmin : ∀ j, j < k → ¬ CanBe o s h j c
        · exact .inl (List.mem_flatMap.2 ⟨c, (ih c).1.2 ⟨h1, hmin⟩, h2⟩)
        · have : ∃ j, j < k ∧ CanBe o s h j c := by
            apply Classical.byContradiction
            intro x
            exact hmin (fun j hj g => x ⟨j, hj, g⟩)
          obtain ⟨j, hj, g⟩ := this
          exact .inr ⟨j + 1, hj, .step g h2⟩
    constructor
    · constructor
      · rintro (g | ⟨g, k1⟩)
        · cases g
        · exact ⟨hnew g, fun j hj x => k1 ((ih d).2.2 ⟨j, by omega, x⟩)⟩
      · rintro ⟨g, k1⟩
        refine .inr ⟨?_, fun x => ?_⟩
        · rcases hstep g with g | ⟨j, hj, x⟩
          · exact g
          · exact absurd x (k1 j (by omega))
        · obtain ⟨j, hj, x⟩ := (ih d).2.1 x
          exact k1 j (by omega) x
    · constructor
      · rintro (g | g)
        · obtain ⟨j, hj, x⟩ := (ih d).2.1 g; exact ⟨j, by omega, x⟩
        · exact ⟨k + 1, Nat.le_refl _, hnew g⟩
      · rintro ⟨j, hj, g⟩
        by_cases e : j = k + 1
        · subst e
          rcases hstep g with g | x
          · exact .inr g
          · exact .inl ((ih d).2.2 x)
        · exact .inl ((ih d).2.2 ⟨j, by omega, g⟩)
theorem first_of {P : Nat → Prop} : ∀ (n : Nat), P n → ∃ k, k ≤ n ∧ P k ∧ ∀ j, j < k → ¬ P j := by
  intro n
  induction n using Nat.strongRecOn with
  | ind n ih =>
    intro hn
    by_cases h : ∃ j, j < n ∧ P j
    · obtain ⟨j, hj, hp⟩ := h
      obtain ⟨k, hk, a, b⟩ := ih j hj hp
      exact ⟨k, by omega, a, b⟩
    · exact ⟨n, Nat.le_refl _, hn, fun j hj hp => h ⟨j, hj, hp⟩⟩
theorem mem_yields {o : Ov} {s : Int × Int} {h : Bool} {K : Nat} (hK : s.1 + (K : Int) = s.2 + 1) {n : Nat} {x : Nat × Cl} : x ∈ yieldsTo o (beginL s.1 h K) n ↔ x.1 < n ∧ CanBe o s h x.1 x.2 ∧ ∀ j, j < x.1 → ¬ CanBe o s h j x.2 := by
  unfold yieldsTo
  rw [List.mem_flatMap]
  obtain ⟨j, c⟩ := x
  simp only
  constructor
  · rintro ⟨i, hi, g⟩
    obtain ⟨c', hc, e⟩ := List.mem_map.1 g
    obtain ⟨rfl, rfl⟩ := Prod.mk.inj e
    exact ⟨List.mem_range.1 hi, ((state_is o s h K hK i c').1.1 hc)⟩
  · rintro ⟨a, b⟩
    exact ⟨j, List.mem_range.2 a, List.mem_map.2 ⟨c, (state_is o s h K hK j c).1.2 b, rfl⟩⟩

variable {o : Ov} {s : Int × Int} {h : Bool} {m : Int}
theorem ovAll_K (he : ovErr o s m = 0) : s.1 + (((s.2 - s.1 + 1).toNat : Nat) : Int) = s.2 + 1 := by
  obtain ⟨_, ⟨_, _, h3⟩, _⟩ := ovErr_ok he
  omega
/-- A climate that can be is among those that the code looks at. -/
theorem ovAll_mem (he : ovErr o s m = 0) {j : Nat} {c : Cl} (hj : (j : Int) ≤ m) (hc : CanBe o s h j c) : ∃ k, k ≤ j ∧ (k, c) ∈ ovAll o s h m := by
  obtain ⟨k, hk, a, b⟩ := first_of (P := fun j => CanBe o s h j c) j hc
  exact ⟨k, hk, (mem_yields (ovAll_K he)).2 ⟨by simp only; omega, a, b⟩⟩
theorem ovAll_can (he : ovErr o s m = 0) {x : Nat × Cl} (hx : x ∈ ovAll o s h m) : (x.1 : Int) ≤ m ∧ CanBe o s h x.1 x.2 := by
  obtain ⟨a, b, _⟩ := (mem_yields (ovAll_K he)).1 hx
  have := (ovErr_ok he).2.2
  exact ⟨by omega, b⟩
theorem ends_of_temp (he : ovErr o s m = 0) {j : Nat} {c : Cl} (hj : (j : Int) ≤ m) (hc : CanBe o s h j c) : (ovEnds o s h m).1 ≤ c.1 ∧ c.1 ≤ (ovEnds o s h m).2.1 := by
  obtain ⟨k, _, hk⟩ := ovAll_mem he hj hc
  have hm : c.1 ∈ tempsOf (ovAll o s h m) := List.mem_map.2 ⟨_, hk, rfl⟩
  obtain ⟨e1, e2⟩ := ends_mem (tempsOf (ovAll o s h m))
  exact (e2 (e1.2 (List.ne_nil_of_mem hm))).2.2 _ hm
/-- The ends are temperatures that there can be. -/
theorem ends_can (he : ovErr o s m = 0) : (∃ (j : Nat) (b : Bool), (j : Int) ≤ m ∧ CanBe o s h j ((ovEnds o s h m).1, b)) ∧ ∃ (j : Nat) (b : Bool), (j : Int) ≤ m ∧ CanBe o s h j ((ovEnds o s h m).2.1, b) := by
  obtain ⟨_, ⟨_, _, h3⟩, h4, _⟩ := ovErr_ok he
  obtain ⟨k, _, hk⟩ := ovAll_mem (h := h) he (j := 0) (c := (s.1, h)) (by omega) (.start (Int.le_refl _) h3)
  obtain ⟨e1, e2⟩ := ends_mem (tempsOf (ovAll o s h m))
  have hf := e1.2 (List.ne_nil_of_mem (List.mem_map.2 ⟨_, hk, rfl⟩))
  obtain ⟨m1, m2, _⟩ := e2 hf
  obtain ⟨x, hx, ex⟩ := List.mem_map.1 m1
  obtain ⟨y, hy, ey⟩ := List.mem_map.1 m2
  refine ⟨⟨x.1, x.2.2, (ovAll_can he hx).1, ?_⟩, ⟨y.1, y.2.2, (ovAll_can he hy).1, ?_⟩⟩
  · unfold ovEnds; rw [← ex]; exact (ovAll_can he hx).2
  · unfold ovEnds; rw [← ey]; exact (ovAll_can he hy).2
theorem yields_sorted (o : Ov) (s0 : Cls) : ∀ n, (yieldsTo o s0 n).Pairwise (fun x y => x.1 ≤ y.1) ∧ ∀ x ∈ yieldsTo o s0 n, x.1 < n
  | 0 => by simp [yieldsTo]
  | n + 1 => by
    obtain ⟨a, b⟩ := yields_sorted o s0 n
    rw [yieldsTo_succ]
    refine ⟨List.pairwise_append.2 ⟨a, ?_, ?_⟩, ?_⟩
    · rw [List.pairwise_map]; exact List.pairwise_of_forall (fun _ _ => Nat.le_refl _)
    · intro x hx y hy
      obtain ⟨c, _, rfl⟩ := List.mem_map.1 hy
      exact Nat.le_of_lt (b x hx)
    · intro x hx
      rcases List.mem_append.1 hx with hx | hx
      · have := b x hx; omega
      · obtain ⟨c, _, rfl⟩ := List.mem_map.1 hx; simp
/-- What Keeps says: -1, and all that can be is safe; or the first minute after which something that can be is not. -/
theorem keeps_is (l : Ln) (he : ovErr o s m = 0) :
    (keepsOf l o s h m = -1 ∧ ∀ (j : Nat) c, (j : Int) ≤ m → CanBe o s h j c → l.bad c.1 = false) ∨
    (∃ k : Nat, keepsOf l o s h m = (k : Int) ∧ (k : Int) ≤ m ∧ (∃ c, CanBe o s h k c ∧ l.bad c.1 = true) ∧ ∀ j c, j < k → CanBe o s h j c → l.bad c.1 = false) := by
  unfold keepsOf
  cases hf : (ovAll o s h m).find? (fun x => l.bad x.2.1) with
  | none =>
    refine .inl ⟨rfl, fun j c hj hc => ?_⟩
    obtain ⟨k, _, hk⟩ := ovAll_mem he hj hc
    have := List.find?_eq_none.1 hf _ hk
    simpa using this
  | some x =>
    have hx := List.mem_of_find?_eq_some hf
    have hb := List.find?_some hf
    obtain ⟨a, b⟩ := ovAll_can he hx
    refine .inr ⟨x.1, rfl, a, ⟨x.2, b, hb⟩, fun j c hj hc => ?_⟩
    obtain ⟨k, hk, hk2⟩ := ovAll_mem he (by omega) hc
    obtain ⟨ys, zs, e, hno⟩ := (List.find?_eq_some_iff_append.1 hf).2
    rw [e] at hk2
    have hs := (yields_sorted o (beginL s.1 h (s.2 - s.1 + 1).toNat) (m.toNat + 1)).1
    have e2 : yieldsTo o (beginL s.1 h (s.2 - s.1 + 1).toNat) (m.toNat + 1) = ys ++ x :: zs := e
    rw [e2] at hs
    rcases List.mem_append.1 hk2 with g | g
    · have := hno _ g; simpa using this
    · rcases List.mem_cons.1 g with g | g
      · have := congrArg Prod.fst g; simp only at this; omega
      · have := (List.pairwise_cons.1 (List.pairwise_append.1 hs).2.1).1 _ g
        simp only at this; omega
end Go.Proofs.Ytggkhddficmnfaa
