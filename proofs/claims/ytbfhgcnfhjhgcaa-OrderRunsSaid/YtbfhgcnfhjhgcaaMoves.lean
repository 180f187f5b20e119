/-
  What a machine changes in memory, and what stays.
-/
import Derived.Test.YtbfhgcnfhjhgcaaDeeds
namespace Go.Proofs.Ytbfhgcnfhjhgcaa
open Go.RowKit
set_option linter.unusedVariables false
set_option linter.unusedSimpArgs false

/-- From one world to another a machine has changed what is its own alone. -/
structure Mv (base b g : Nat) (q q' : Sl) (A B : World) : Prop where
  low : Below base A B
  oth : ∀ k, k < A.heap.size → k ≠ b → k ≠ g → blkOf q.c ≠ some k → B.heap[k]? = A.heap[k]?
  new : ∀ r, blkOf q'.c = some r → blkOf q.c = some r ∨ A.heap.size ≤ r
theorem Mv.trans {base b g : Nat} {q q' q'' : Sl} {A B C : World} (h : Mv base b g q q' A B) (k : Mv base b g q' q'' B C) : Mv base b g q q'' A C :=
  ⟨h.low.trans k.low, fun i hi h1 h2 h3 => (k.oth i (by have := h.low.size; omega) h1 h2 (fun e => by
      rcases h.new i e with x | x
      · exact h3 x
      · omega)).trans (h.oth i hi h1 h2 h3), fun r e => by
    rcases k.new r e with x | x
    · exact h.new r x
    · exact .inr (by have := h.low.size; omega)⟩
theorem Mv.below {base b g : Nat} {q : Sl} {A B : World} (hb : Below A.heap.size A B) (h : base ≤ A.heap.size) : Mv base b g q q A B :=
  ⟨hb.mono h, fun k hk _ _ _ => hb.block k hk, fun r e => .inl e⟩
theorem Mv.setb {base b g : Nat} {q : Sl} {A : World} (h : base ≤ b) (i : Nat) (v : Value) : Mv base b g q q A (A.setCell ⟨b, i, none⟩ v) :=
  ⟨(Below.refl base A).setCell (p := ⟨b, i, none⟩) h v, fun k _ h1 _ _ => Below.heap_setCell A ⟨b, i, none⟩ v k h1, fun r e => .inl e⟩
theorem Mv.setg {base b g : Nat} {q : Sl} {A : World} (h : base ≤ g) (i : Nat) (v : Value) : Mv base b g q q A (A.setCell ⟨g, i, none⟩ v) :=
  ⟨(Below.refl base A).setCell (p := ⟨g, i, none⟩) h v, fun k _ _ h2 _ => Below.heap_setCell A ⟨g, i, none⟩ v k h2, fun r e => .inl e⟩

theorem grown_setc (W : World) (b i : Nat) (v : Value) : W.grownBy (W.setCell ⟨b, i, none⟩ v) (some b) := ⟨rfl, rfl, rfl, by simp, fun k hk hne => Below.heap_setCell W _ _ k (fun e => hne (by rw [e]))⟩
theorem Mac.base_le {W : World} {base b g : Nat} {q : Sl} {s : St} (h : Mac W base b g q s) : base ≤ W.heap.size := by have := h.blt; have := h.hb; omega
/-- A cell of the machine's block is set. -/
theorem Mac.setb {W : World} {base b g : Nat} {q : Sl} {s : St} (h : Mac W base b g q s) (i : Nat) (v : Value) (s' : St) (hs : stCells q s' = (stCells q s).setIfInBounds i v) (h1 : s'.store = s.store) (h2 : s'.tape = s.tape) (h3 : s'.printed = s.printed) :
    Mac (W.setCell ⟨b, i, none⟩ v) base b g q s' := by
  refine ⟨by rw [hs]; exact h.blk.set i v, h.qa, ?_, ?_, ?_, h.hb, h.bg, h.nb, h.ng, h.pb, h.pg, h.pn⟩
  · rw [h1]; exact h.own.kept (grown_setc _ _ _ _) (.inr (by rw [own_slice, h.qa]; intro e; injection e with e; exact h.bg e.symm))
  · rw [h2]; exact h.tap.kept (grown_setc _ _ _ _) (.inr (by rw [own_slice]; exact h.nb))
  · rw [h3]; exact h.prn.kept (grown_setc _ _ _ _) (.inr (by rw [own_slice]; exact h.pb))
/-- A word of the store is set. -/
theorem Mac.setg {W : World} {base b g : Nat} {q : Sl} {s : St} (h : Mac W base b g q s) (k : Nat) (i v : Int) (hk : i.toNat = k) :
    Mac (W.setCell ⟨g, k, none⟩ (.int .i64 v)) base b g q { s with store := setI s.store i v } := by
  subst hk
  have ho := h.own
  rw [h.qa] at ho
  have hst := (ho.stored i.toNat (.int .i64 v)).1
  refine ⟨?_, h.qa, ?_, h.tap.kept (grown_setc _ _ _ _) (.inr (by rw [own_slice]; exact h.ng)), h.prn.kept (grown_setc _ _ _ _) (.inr (by rw [own_slice]; exact h.pg)), h.hb, h.bg, h.nb, h.ng, h.pb, h.pg, h.pn⟩
  · show Blk _ b _ #[.slice q.a (setI s.store i v).length q.ca, _, _, _, _, _, _, _]
    rw [setI_len]
    exact h.blk.other h.bg _
  · show World.ownsRow _ base _ 1 (.slice q.a (setI s.store i v).length q.ca) (setI s.store i v).length ((setI s.store i v).map (Value.int .i64))
    rw [setI_len, h.qa, setI, List.map_set]
    exact hst
/-- A word has been printed. -/
theorem Mac.setp {w W1 : World} {base b g : Nat} {q : Sl} {s : St} (h : Mac w base b g q s) (a' : Option Addr) (c' : Nat) (xs : List Int) (hown : W1.ownsRow base 3 1 (.slice a' xs.length c') xs.length (xs.map (Value.int .i64))) (hg : w.grownBy W1 (blkOf q.c)) (hn : ∀ r, blkOf a' = some r → blkOf q.c = some r ∨ w.heap.size ≤ r) :
    Mac (W1.setCell ⟨b, 3, none⟩ (.slice a' xs.length c')) base b g { q with c := a', cc := c' } { s with printed := xs } ∧ Mv base b g q { q with c := a', cc := c' } w (W1.setCell ⟨b, 3, none⟩ (.slice a' xs.length c')) := by
  have hb1 : Blk W1 b 83 (stCells q s) := (hg.block b h.blt (fun e => h.pb e.symm)).trans h.blk
  have hgl := h.glt
  have tl : ∀ r, blkOf q.b = some r → r < w.heap.size := fun r e => (h.tap.lt r (by rw [own_slice]; exact e)).2
  have apart : ∀ r, blkOf a' = some r → r ≠ b ∧ r ≠ g ∧ blkOf q.b ≠ some r := fun r e => by
    have hbl := h.blt
    rcases hn r e with x | x
    · exact ⟨fun e2 => h.pb (by rw [x, e2]), fun e2 => h.pg (by rw [x, e2]), h.pn r x⟩
    · exact ⟨by omega, by omega, fun e2 => by have := tl r e2; omega⟩
  refine ⟨⟨hb1.set 3 _, h.qa, ?_, ?_, ?_, h.hb, h.bg, h.nb, h.ng, fun e => (apart b e).1 rfl, fun e => (apart g e).2.1 rfl, fun r e => (apart r e).2.2⟩, ?_, ?_, hn⟩
  · refine (h.own.kept hg (.inr ?_)).kept (grown_setc _ _ _ _) (.inr ?_)
    · rw [own_slice, h.qa]; exact fun e => h.pg e.symm
    · rw [own_slice, h.qa]; intro e; injection e with e; exact h.bg e.symm
  · refine (h.tap.kept hg ?_).kept (grown_setc _ _ _ _) (.inr (by rw [own_slice]; exact h.nb))
    rw [own_slice]
    cases e : blkOf q.c with
    | none =>
      cases e2 : blkOf q.b with
      | none => exact .inl rfl
      | some r => exact .inr (by simp)
    | some r => exact .inr (h.pn r e)
  · exact hown.kept (grown_setc _ _ _ _) (.inr (by rw [own_slice]; exact fun e => (apart b e).1 rfl))
  · refine (Below.refl base w |>.grown hg h.base_le (fun r e => ?_)).setCell (p := ⟨b, 3, none⟩) h.hb _
    exact (h.prn.lt r (by rw [own_slice]; exact e.symm ▸ rfl)).1
  · intro k hk h1 h2 h3
    exact (Below.heap_setCell W1 ⟨b, 3, none⟩ _ k h1).trans (hg.block k hk (fun e => h3 e.symm))
end Go.Proofs.Ytbfhgcnfhjhgcaa
