/-
  The climates that there can be, minute by minute (mathematics alone).
-/
import Derived.Test.YtggkhddficmnfaaMinutes
namespace Go.Proofs.Ytggkhddficmnfaa
open Go.RowKit Go.Shelf
set_option linter.unusedVariables false
set_option linter.unusedSimpArgs false

abbrev Cls := List Cl × List Cl
def add1 (st : Cls) (c : Cl) : Cls := if c ∈ st.2 then st else (st.1 ++ [c], st.2 ++ [c])
def meetL (st : Cls) (cs : List Cl) : Cls := cs.foldl add1 st
theorem meetL_snoc (st : Cls) (cs : List Cl) (c : Cl) : meetL st (cs ++ [c]) = add1 (meetL st cs) c := by simp [meetL]
theorem meetL_app (st : Cls) (cs ds : List Cl) : meetL st (cs ++ ds) = meetL (meetL st cs) ds := by simp [meetL]
def nextL (o : Ov) (st : Cls) : Cls := meetL ([], st.2) (st.1.flatMap (stepsOf o))
def stateAt (o : Ov) (s0 : Cls) : Nat → Cls
  | 0 => s0
  | k + 1 => nextL o (stateAt o s0 k)
def beginL (lo : Int) (h : Bool) (k : Nat) : Cls := meetL ([], []) (spread lo h k)
theorem beginL_succ (lo : Int) (h : Bool) (k : Nat) : beginL lo h (k + 1) = add1 (beginL lo h k) (lo + (k : Int), h) := by rw [beginL, spread_succ, meetL_snoc]; rfl
/-- Each climate with the minutes after which it is met, for the first k of them. -/
def yieldsTo (o : Ov) (s0 : Cls) (k : Nat) : List (Nat × Cl) := (List.range k).flatMap fun j => (stateAt o s0 j).1.map fun c => (j, c)
theorem yieldsTo_succ (o : Ov) (s0 : Cls) (k : Nat) : yieldsTo o s0 (k + 1) = yieldsTo o s0 k ++ (stateAt o s0 k).1.map fun c => (k, c) := by simp [yieldsTo, List.range_succ]

theorem yieldsTo_pre (o : Ov) (s0 : Cls) (k : Nat) : ∀ d, yieldsTo o s0 k <+: yieldsTo o s0 (k + d)
  | 0 => List.prefix_refl _
  | d + 1 => (yieldsTo_pre o s0 k d).trans (by rw [← Nat.add_assoc, yieldsTo_succ]; exact List.prefix_append _ _)
abbrev Cbd (c : Cl) : Prop := -600 ≤ c.1 ∧ c.1 ≤ 1100
structure Good (st : Cls) : Prop where
  nodup : st.2.Nodup
  bd : ∀ c ∈ st.2, Cbd c
  len : st.1.length ≤ st.2.length
  sub : ∀ c ∈ st.1, c ∈ st.2
theorem Good.add {st : Cls} (h : Good st) {c : Cl} (hc : Cbd c) : Good (add1 st c) := by
  unfold add1
  by_cases e : c ∈ st.2
  · rw [if_pos e]; exact h
  · rw [if_neg e]
    refine ⟨?_, ?_, by simp; exact h.len, ?_⟩
    · refine List.nodup_append.2 ⟨h.nodup, by simp, ?_⟩
      intro a ha b hb; simp at hb; subst hb; intro e'; subst e'; exact e ha
    · intro d hd
      rcases List.mem_append.1 hd with hd | hd
      · exact h.bd d hd
      · simp at hd; subst hd; exact hc
    · intro d hd
      rcases List.mem_append.1 hd with hd | hd
      · exact List.mem_append_left _ (h.sub d hd)
      · exact List.mem_append_right _ hd
theorem Good.meets {cs : List Cl} : ∀ {st : Cls}, Good st → (∀ c ∈ cs, Cbd c) → Good (meetL st cs) := by
  induction cs with
  | nil => intro st h _; exact h
  | cons c cs ih => intro st h hc; exact ih (h.add (hc c (by simp))) (fun d hd => hc d (by simp [hd]))
theorem Good.drop {st : Cls} (h : Good st) : Good ([], st.2) := ⟨h.nodup, h.bd, by simp, by simp⟩
theorem nodup_lt : ∀ (n : Nat) (l : List Nat), l.Nodup → (∀ x ∈ l, x < n) → l.length ≤ n := by
  intro n
  induction n with
  | zero => intro l _ h; cases l with | nil => simp | cons a l => exact absurd (h a (by simp)) (by omega)
  | succ n ih =>
    intro l hl h
    by_cases e : n ∈ l
    · have h1 := ih (l.erase n) (hl.erase n) (fun x hx => by
        have h2 := h x (List.mem_of_mem_erase hx)
        have h3 : x ≠ n := (hl.mem_erase_iff.1 hx).1
        omega)
      rw [List.length_erase_of_mem e] at h1
      omega
    · have := ih l hl (fun x hx => by have h2 := h x hx; have h3 : x ≠ n := fun e' => e (e' ▸ hx); omega)
      omega
def codeOf (c : Cl) : Nat := (c.1 + 600).toNat * 2 + (if c.2 then 1 else 0)
theorem Good.few {st : Cls} (h : Good st) : st.2.length ≤ 3402 := by
  have h1 : (st.2.map codeOf).Nodup := by
    refine List.Pairwise.map codeOf (fun a b hab => ?_) (List.Pairwise.imp_of_mem (fun {a b} ha hb hab => ?_) h.nodup : List.Pairwise (fun a b => Cbd a ∧ Cbd b ∧ a ≠ b) st.2)
    · obtain ⟨ba, bb, hne⟩ := hab
      intro e
      apply hne
      obtain ⟨a1, a2⟩ := a
      obtain ⟨b1, b2⟩ := b
      simp only [codeOf] at e
      have x1 := ba.1; have x2 := bb.1
      simp only at x1 x2
      cases a2 <;> cases b2 <;> simp at e ⊢ <;> omega
    · exact ⟨h.bd a ha, h.bd b hb, hab⟩
  have h2 := nodup_lt 3402 _ h1 (fun x hx => by
    obtain ⟨c, hc, rfl⟩ := List.mem_map.1 hx
    have := h.bd c hc
    unfold codeOf
    split <;> omega)
  simpa using h2
theorem steps_bd {o : Ov} (ho : o.Ok) {c : Cl} (hc : Cbd c) : ∀ d ∈ stepsOf o c, Cbd d := by
  intro d hd
  obtain ⟨j, hj, rfl⟩ := List.mem_map.1 hd
  have hj' := List.mem_range.1 hj
  obtain ⟨⟨t1, t2, w, k⟩, h1, h2, h3⟩ := ho
  obtain ⟨t, b⟩ := c
  unfold manyAt lowAt highAt at hj'
  unfold lowAt
  unfold Cbd at *
  cases e : heatsAt o (t, b)
  · rw [e] at hj'
    simp [heatsAt] at e
    simp at hj' hc ⊢
    have := t1.1; have := t1.2; have := k.1.1; have := k.1.2; have := k.2.1; have := k.2.2
    omega
  · rw [e] at hj'
    simp [heatsAt] at e
    simp at hj' hc ⊢
    have := t2.1; have := t2.2; have := t1.1; have := t1.2; have := w.1.1; have := w.1.2; have := w.2.1; have := w.2.2
    rcases e with e | ⟨e, _⟩ <;> omega
theorem Good.next {o : Ov} (ho : o.Ok) {st : Cls} (h : Good st) : Good (nextL o st) :=
  h.drop.meets fun c hc => by
    obtain ⟨d, hd, hc⟩ := List.mem_flatMap.1 hc
    exact steps_bd ho (h.bd d (h.sub d hd)) c hc
theorem Good.at_ {o : Ov} (ho : o.Ok) {s0 : Cls} (h : Good s0) : ∀ k, Good (stateAt o s0 k)
  | 0 => h
  | k + 1 => (Good.at_ ho h k).next ho
theorem Good.begin {lo : Int} {h : Bool} {k : Nat} (h1 : -600 ≤ lo) (h2 : lo + k ≤ 1101) : Good (beginL lo h k) :=
  Good.meets ⟨by simp, by simp, by simp, by simp⟩ fun c hc => by
    obtain ⟨j, hj, rfl⟩ := List.mem_map.1 hc
    have := List.mem_range.1 hj
    simp only [Cbd]; omega
/-- How far a minute has come: i climates are done. -/
def partL (o : Ov) (st : Cls) (i : Nat) : Cls := meetL ([], st.2) ((st.1.take i).flatMap (stepsOf o))
theorem partL_zero (o : Ov) (st : Cls) : partL o st 0 = ([], st.2) := by simp [partL, meetL]
theorem partL_all (o : Ov) (st : Cls) : partL o st st.1.length = nextL o st := by simp [partL, nextL]
theorem partL_succ (o : Ov) (st : Cls) (i : Nat) (h : i < st.1.length) : partL o st (i + 1) = meetL (partL o st i) (stepsOf o st.1[i]) := by
  have e : st.1.take (i + 1) = st.1.take i ++ [st.1[i]] := by rw [List.take_add_one, List.getElem?_eq_getElem h]; rfl
  have e2 : List.flatMap (stepsOf o) [st.1[i]] = stepsOf o st.1[i] := by simp
  rw [partL, partL, e, List.flatMap_append, meetL_app, e2]
theorem Good.part {o : Ov} (ho : o.Ok) {st : Cls} (h : Good st) (i : Nat) : Good (partL o st i) :=
  h.drop.meets fun c hc => by
    obtain ⟨d, hd, hc⟩ := List.mem_flatMap.1 hc
    exact steps_bd ho (h.bd d (h.sub d (List.mem_of_mem_take hd))) c hc
theorem meetL_grow (cs : List Cl) : ∀ st : Cls, (meetL st cs).1.length ≤ st.1.length + cs.length ∧ (meetL st cs).2.length ≤ st.2.length + cs.length := by
  induction cs with
  | nil => intro st; simp [meetL]
  | cons c cs ih =>
    intro st
    have := ih (add1 st c)
    have h2 : (add1 st c).1.length ≤ st.1.length + 1 ∧ (add1 st c).2.length ≤ st.2.length + 1 := by unfold add1; split <;> simp
    simp only [List.length_cons]
    show (meetL (add1 st c) cs).1.length ≤ _ ∧ (meetL (add1 st c) cs).2.length ≤ _
    omega
theorem inL_snoc (met : List Cl) (c : Cl) (s : Int) (b : Bool) : inL (met ++ [c]) s b = (inL met s b || (s == c.1 && b == c.2)) := by
  obtain ⟨t, h⟩ := c
  unfold inL
  rw [Bool.eq_iff_iff]
  simp
theorem low_bd {o : Ov} (ho : o.Ok) {c : Cl} (hc : Cbd c) : -5000 ≤ lowAt o c ∧ highAt o c ≤ 5000 := by
  obtain ⟨⟨_, _, w, k⟩, _, _⟩ := ho
  have := k.1.1; have := k.1.2; have := k.2.1; have := k.2.2; have := w.1.1; have := w.1.2; have := w.2.1; have := w.2.2; have := hc.1; have := hc.2
  unfold lowAt highAt
  split <;> omega
theorem many_few {o : Ov} (ho : o.Ok) (c : Cl) : manyAt o c ≤ 101 := by
  obtain ⟨_, h2, h3⟩ := ho
  rename_i h1
  obtain ⟨_, _, w, k⟩ := h1
  unfold manyAt lowAt highAt
  have := k.1.1; have := k.1.2; have := k.2.1; have := k.2.2; have := w.1.1; have := w.1.2; have := w.2.1; have := w.2.2
  split <;> omega
end Go.Proofs.Ytggkhddficmnfaa
