/-
  What is between two rounds of the loop over a minute.
-/
import Derived.Test.YtggkhddficmnfaaClimateMath
namespace Go.Proofs.Ytggkhddficmnfaa
open Go.RowKit Go.Shelf
set_option linter.unusedVariables false
set_option linter.unusedSimpArgs false

/-- A slice and a map hold what has been met. -/
structure MetAt (W : World) (base m : Nat) (v : Value) (st : Cls) : Prop where
  row : W.ownsRow base 116 2 v st.1.length (cellsC st.1)
  set : SetAt W 116 m st.2.length (inL st.2)
  apart : some m ≠ v.ownBlock
theorem MetAt.turned {W W' : World} {base m : Nat} {v : Value} {st : Cls} (h : MetAt W base m v st) {row : Option Nat} (hg : W.grownBy W' row) (h1 : row ≠ some m) (h2 : ∀ g, v.ownBlock = some g → row ≠ some g) : MetAt W' base m v st :=
  ⟨h.row.kept hg (by
    cases e : v.ownBlock with
    | none => exact .inl rfl
    | some g => exact .inr (fun e' => h2 g e e'.symm)), h.set.kept hg (fun e => h1 e.symm), h.apart⟩
theorem MetAt.below {W W' : World} {base m : Nat} {v : Value} {st : Cls} (h : MetAt W base m v st) (hb : Below W.heap.size W W') : MetAt W' base m v st := h.turned (grown_of_below hb) (by simp) (by simp)
theorem meet_any (v : Value) (st : Cls) (m base : Nat) (c : Cl) (hw : (Lit.int .i64 c.1).wf = true) (w : World) (h : MetAt w base m v st) (h1 : st.1.length ≤ 100000) (h2 : st.2.length ≤ 100000) (hbase : base ≤ w.heap.size) :
    Calls Try.prog 99 #[v, .map (some m), Cl.val c] w fun e w' => ∃ v', e = .returned v' ∧ MetAt w' base m v' (add1 st c) ∧ Turned w w' m v.ownBlock ∧ (v'.ownBlock = v.ownBlock ∨ ∃ g, v'.ownBlock = some g ∧ w.heap.size ≤ g) := by
  by_cases hc : c ∈ st.2
  · refine (meet_old v (inL st.2) st.2.length m c hw w h.set (by simp [inL, hc])).mono ?_
    rintro e w' ⟨rfl, hb⟩
    refine ⟨v, rfl, ?_, Turned.of_below hb _ _, .inl rfl⟩
    rw [add1, if_pos hc]
    exact h.below hb
  · refine (meet_new v st.1 (inL st.2) st.2.length m base c hw w h.set (by simp [inL, hc]) h2 h1 hbase h.row h.apart).mono ?_
    rintro e w' ⟨v', rfl, k1, k2, k3, k4⟩
    refine ⟨v', rfl, ?_, k3, k4⟩
    rw [add1, if_neg hc]
    refine ⟨k1, ?_, ?_⟩
    · show SetAt w' _ m (st.2 ++ [c]).length (inL (st.2 ++ [c]))
      rw [List.length_append]
      exact k2.congr fun s b => (inL_snoc _ _ _ _).symm
    · rcases k4 with e | ⟨g, e, hg⟩
      · rw [e]; exact h.apart
      · rw [e]; intro e'; cases e'; have := h.set.lt; omega

theorem cellsC_get : ∀ (xs : List Cl) (j : Nat) (hj : j < xs.length), (cellsC xs)[j * 2]? = some (.int .i64 xs[j].1) ∧ (cellsC xs)[j * 2 + 1]? = some (.bool xs[j].2)
  | c :: cs, 0, _ => by simp [cellsC]
  | c :: cs, j + 1, hj => by
    have := cellsC_get cs j (by simpa using hj)
    have e1 : (j + 1) * 2 = j * 2 + 1 + 1 := by omega
    rw [e1]
    simpa [cellsC] using this
theorem MetAt.slice {W : World} {base m : Nat} {v : Value} {st : Cls} (h : MetAt W base m v st) : ∃ a c, v = .slice a st.1.length c ∧ ∀ j (hj : j < st.1.length), ∃ g, a = some ⟨g, 0, none⟩ ∧ W.cell? ⟨g, j * 2, none⟩ = some (.int .i64 st.1[j].1) ∧ W.cell? ⟨g, j * 2 + 1, none⟩ = some (.bool st.1[j].2) := by
  rcases h.row.2 with ⟨e, h0⟩ | ⟨g, c, cur, e, _⟩
  · exact ⟨none, 0, by rw [e, h0], fun j hj => by rw [h0] at hj; omega⟩
  · subst e
    refine ⟨some ⟨g, 0, none⟩, c, rfl, fun j hj => ⟨g, rfl, ?_, ?_⟩⟩
    · exact (h.row.cellAt (j * 2) (by omega)).trans (cellsC_get st.1 j hj).1
    · exact (h.row.cellAt (j * 2 + 1) (by omega)).trans (cellsC_get st.1 j hj).2
theorem MetAt.kept {X : Nat → Prop} {W W' : World} {base m : Nat} {v : Value} {st : Cls} (h : MetAt W base m v st) (hk : Kept X W W') (hm : ¬ X m) (hx : ∀ k, X k → k < base) : MetAt W' base m v st :=
  ⟨⟨h.row.1, h.row.2.imp id (fun ⟨g, cap, cur, e, hg, hh, r⟩ => ⟨g, cap, cur, e, hg, hk.same g _ hh (fun r e => by cases e) (fun x => by have := hx g x; omega), r⟩)⟩,
    let ⟨D, ⟨es, clock, hb, F⟩, h2⟩ := h.set; ⟨D, ⟨es, clock, hk.same m _ hb (fun r e => by cases e) hm, F⟩, h2⟩, h.apart⟩
theorem MetAt.cells {W : World} {base m : Nat} {v : Value} {st : Cls} (h : MetAt W base m v st) {g : Nat} (e : v.ownBlock = some g) : ∃ x, W.heap[g]? = some x ∧ x.isCells = true ∧ base ≤ g := by
  rcases h.row.2 with ⟨e', _⟩ | ⟨g', c, cur, e', hb, hh, _⟩
  · rw [e'] at e; cases e
  · rw [e'] at e; cases e; exact ⟨_, hh, rfl, hb⟩
theorem MetAt.map {W : World} {base m : Nat} {v : Value} {st : Cls} (h : MetAt W base m v st) : ∃ x, W.heap[m]? = some x ∧ x.isCells = false ∧ ∀ ds, x ≠ .deferred ds := by
  obtain ⟨D, ⟨es, clock, hb, F⟩, h2⟩ := h.set
  exact ⟨_, hb, rfl, fun ds e => by cases e⟩

/-- The marks that loops over iterators have left: their blocks' numbers. -/
def marks (Ds : List Nat) : List Deferred := Ds.map fun D => { target := .collected D, args := #[] }
/-- Nothing was deferred in any of them. -/
def Marks (s : Nat) (Ds : List Nat) (W : World) : Prop := Ds.Nodup ∧ ∀ D ∈ Ds, s ≤ D ∧ W.heap[D]? = some (.deferred (some []))
theorem Marks.grown {s : Nat} {Ds : List Nat} {A B : World} {row : Option Nat} (h : Marks s Ds A) (hg : A.grownBy B row) (hr : ∀ r, row = some r → r ∉ Ds) : Marks s Ds B :=
  ⟨h.1, fun D hD => ⟨(h.2 D hD).1, (hg.block D (Array.getElem?_eq_some_iff.1 (h.2 D hD).2).1 (fun e => hr D e.symm hD)).trans (h.2 D hD).2⟩⟩
theorem Marks.kept {s : Nat} {Ds : List Nat} {A B : World} {X : Nat → Prop} (h : Marks s Ds A) (hk : Kept X A B) (hx : ∀ k, X k → k < s) : Marks s Ds B :=
  ⟨h.1, fun D hD => ⟨(h.2 D hD).1, hk.same D _ (h.2 D hD).2 (fun r e => by cases e) (fun x => by have := hx D x; have := (h.2 D hD).1; omega)⟩⟩
theorem leaves_marks {F : Fence} {n : Nat} {P : Program} {fn : Func} {tmps : Array Value} {R : Ending → World → Prop} {s : Nat} (Q : World → Prop) (hQ : ∀ W D, s ≤ D → W.heap[D]? = some (.deferred (some [])) → Q W → Q (W.putObj D (.deferred none))) :
    ∀ (Ds : List Nat) (W : World), Marks s Ds W → Q W → (∀ W', Q W' → LeavesIn F n P fn tmps R [] .returning W') → LeavesInM F n P fn tmps R (marks Ds) .returning W
  | [], W, _, hq, hf => hf W hq
  | D :: Ds, W, hm, hq, hf => by
    have h1 := hm.2 D (by simp)
    refine ⟨by simp, .inl ⟨D, _, rfl, run_takeDeferred h1.2, ?_⟩⟩
    have hn := List.nodup_cons.1 hm.1
    refine leaves_marks Q hQ Ds _ ⟨hn.2, fun E hE => ⟨(hm.2 E (by simp [hE])).1, ?_⟩⟩ (hQ W D h1.1 h1.2 hq) hf
    exact (World.putObj_heap_other (fun e => hn.1 (by rw [← e]; exact hE))).trans (hm.2 E (by simp [hE])).2


structure StepI (s nb bl bh bt : Nat) (wr w5 : World) (Es : List Nat) (cur : Cls) (pre : List Cw) (W' : World) : Prop where
  next : ∃ nv, Boxed W' nb 138 nv ∧ MetAt W' s (s + 1) nv (meetL cur (pre.map Subtype.val)) ∧ ∀ g, nv.ownBlock = some g → nb < g ∧ g ≠ bl ∧ g ≠ bh ∧ g ≠ bt
  box : Boxed W' (s + 1 + 1) 137 (.map (some (s + 1)))
  since : wr.grownBy W' (some (s + 1))
  marks : Marks s Es W'
  size : w5.heap.size ≤ W'.heap.size
theorem stepI_own {s nb bl bh bt : Nat} {wr w5 : World} {Es : List Nat} {cur : Cls} (h1 : wr.heap.size ≤ w5.heap.size) (h2 : nb < w5.heap.size) (h3 : s + 3 ≤ nb) (h4 : ∀ D ∈ Es, D < w5.heap.size) : OwnFrom w5.heap.size (StepI s nb bl bh bt wr w5 Es cur) := by
  intro pre A B row h hg hr
  obtain ⟨⟨nv, n1, n2, n3⟩, k2, k3, k4, k5⟩ := h
  refine ⟨⟨nv, n1.kept hg (fun e => by have := (hr _ e.symm).1; omega), n2.turned hg (fun e => by have := (hr _ e).1; omega) (fun g e e' => ?_), n3⟩, k2.kept hg (fun e => by have := (hr _ e.symm).1; omega),
    ⟨hg.os.trans k3.os, hg.tape.trans k3.tape, hg.output.trans k3.output, Nat.le_trans k3.size hg.size, fun k hk hne => (hg.block k (by have := k3.size; omega) (fun e => by have := (hr _ e.symm).1; omega)).trans (k3.block k hk hne)⟩,
    k4.grown hg (fun r e hD => by have := (hr r e).1; have := h4 r hD; omega), Nat.le_trans k5 hg.size⟩
  obtain ⟨_, x, hx, hc⟩ := hr g e'
  obtain ⟨y, hy, hyc, _⟩ := n2.cells e
  rw [hx] at hy; cases hy; rw [hc] at hyc; cases hyc
theorem step_next {s nb bl bh bt : Nat} {wr w5 W' w6 : World} {Es : List Nat} {cur : Cls} {pre : List Cw} {x : Cw} {nv v6 : Value} (hwr : wr.heap.size = nb) (h3 : s + 3 ≤ nb) (h5 : w5.heap.size ≤ W'.heap.size) (h2 : nb < w5.heap.size)
    (hl : (nb < bl ∧ nb < bh ∧ nb < bt) ∧ bl < w5.heap.size ∧ bh < w5.heap.size ∧ bt < w5.heap.size) (hbox : Boxed W' nb 138 nv) (hmt : MetAt W' s (s + 1) nv (meetL cur (pre.map Subtype.val))) (hgs : ∀ g, nv.ownBlock = some g → nb < g ∧ g ≠ bl ∧ g ≠ bh ∧ g ≠ bt)
    (hmb : Boxed W' (s + 1 + 1) 137 (.map (some (s + 1)))) (hgw : wr.grownBy W' (some (s + 1))) (hmk : Marks s Es W')
    (hm6 : MetAt w6 s (s + 1) v6 (add1 (meetL cur (pre.map Subtype.val)) x.1)) (ht : Turned W' w6 (s + 1) nv.ownBlock) (hor : v6.ownBlock = nv.ownBlock ∨ ∃ g, v6.ownBlock = some g ∧ W'.heap.size ≤ g) :
    KeepsFrom w5.heap.size W' (w6.setCell ⟨nb, 0, none⟩ v6) ∧ Same3 bl bh bt W' (w6.setCell ⟨nb, 0, none⟩ v6) ∧ StepI s nb bl bh bt wr w5 Es cur (pre ++ [x]) (w6.setCell ⟨nb, 0, none⟩ v6) := by
  have hg7 := grownBy_setCell' w6 nb v6
  have hsz := ht.size
  have same : ∀ k, k < W'.heap.size → k ≠ s + 1 → some k ≠ nv.ownBlock → k ≠ nb → (w6.setCell ⟨nb, 0, none⟩ v6).heap[k]? = W'.heap[k]? := fun k a b c d =>
    (hg7.block k (by omega) (by simpa using d)).trans (ht.block k a b c)
  have ng : ∀ k, k ≤ nb → some k ≠ nv.ownBlock := fun k hk e => by have := (hgs k e.symm).1; omega
  have hcells : ∀ k o, W'.heap[k]? = some o → o.isCells = false → some k ≠ nv.ownBlock := fun k o hk ho e => by
    obtain ⟨y, hy, hyc, _⟩ := hmt.cells e.symm
    rw [hk] at hy; cases hy; rw [ho] at hyc; cases hyc
  have hv6 : ∀ g, v6.ownBlock = some g → nb < g ∧ g ≠ bl ∧ g ≠ bh ∧ g ≠ bt := fun g e => by
    rcases hor with e' | ⟨g', e', hg'⟩
    · exact hgs g (e'.symm.trans e)
    · rw [e'] at e; cases e; omega
  refine ⟨⟨Nat.le_trans hsz hg7.size, fun k o hk ho hc => (same k (Array.getElem?_eq_some_iff.1 ho).1 (by omega) (hcells k o ho hc) (by omega)).trans ho⟩,
    ⟨same bl (by omega) (by omega) (fun e => (hgs bl e.symm).2.1 rfl) (by omega), same bh (by omega) (by omega) (fun e => (hgs bh e.symm).2.2.1 rfl) (by omega), same bt (by omega) (by omega) (fun e => (hgs bt e.symm).2.2.2 rfl) (by omega)⟩,
    ⟨⟨v6, Boxed.set v6 (boxed_same hbox (ht.block nb (by omega) (by omega) (ng nb (Nat.le_refl _)))), ?_, hv6⟩, ?_, ?_, ?_, ?_⟩⟩
  · rw [List.map_append, show ([x] : List Cw).map Subtype.val = [x.1] from rfl, meetL_snoc]
    exact hm6.turned hg7 (fun e => by cases e; omega) (fun g e e' => by cases e'; have := (hv6 nb e).1; omega)
  · exact boxed_same hmb (same _ (by omega) (by omega) (ng _ (by omega)) (by omega))
  · exact ⟨hg7.os.trans (ht.os.trans hgw.os), hg7.tape.trans (ht.tape.trans hgw.tape), hg7.output.trans (ht.output.trans hgw.output), Nat.le_trans hgw.size (Nat.le_trans hsz hg7.size), fun k hk hne => (same k (by omega) (by simpa using hne) (ng k (by omega)) (by omega)).trans (hgw.block k hk hne)⟩
  · refine ⟨hmk.1, fun D hD => ⟨(hmk.2 D hD).1, ?_⟩⟩
    have hd := (hmk.2 D hD).2
    refine (same D (Array.getElem?_eq_some_iff.1 hd).1 (fun e => ?_) (hcells D _ hd rfl) (fun e => ?_)).trans hd
    · subst e
      obtain ⟨y, hy, _, hyd⟩ := hmt.map
      rw [hd] at hy; cases hy; exact hyd _ rfl
    · subst e
      rw [show W'.heap[D]? = _ from hbox] at hd; cases hd
  · exact Nat.le_trans h5 (Nat.le_trans hsz hg7.size)
end Go.Proofs.Ytggkhddficmnfaa
