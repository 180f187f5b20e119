/-
  What a call owns while it goes: blocks that it knows whole, rows that it appends to; all else lies as it lay when the call began.
  A region that draws its order, whose operations leave what lay there as it lay, up to a chain at its end: each operation alone, for whatever was done beside it.
  append to a row that the call owns.
-/
import Derived.Test.YtbfhgcnfhjhgcaaRows
import Derived.WalkKit
import Derived.WalkSpells
import Derived.WalkLawsBesides
import Derived.Deep.RegionHeld3
import Derived.Deep.RegionWith
import Derived.Deep.QuietTactic
import Derived.BigQuiet
import Derived.Below
import Derived.Laws.OwnMore
import Derived.Orders
import Derived.StillTail
import Derived.ArgAppend
import Derived.Laws.AppendOwn
import Derived.OwnWalk
import Derived.Laws.Tables
import Derived.Laws.Rows
namespace Go.Proofs.Ytbfhgcnfhjhgcaa
open Go.RowKit
set_option linter.unusedVariables false
set_option linter.unusedSimpArgs false

/-- But for the blocks of S, whatever lay in W lies in W' as it lay. -/
structure Mods (S : List Nat) (W W' : World) : Prop where
  os : W'.os = W.os
  tape : W'.tape = W.tape
  output : W'.output = W.output
  size : W.heap.size ≤ W'.heap.size
  block : ∀ k, k < W.heap.size → k ∉ S → W'.heap[k]? = W.heap[k]?
theorem Mods.refl (S : List Nat) (W : World) : Mods S W W := ⟨rfl, rfl, rfl, Nat.le_refl _, fun _ _ _ => rfl⟩
theorem Mods.below {W W' : World} (h : Mods [] W W') : Below W.heap.size W W' := ⟨h.os, h.tape, h.output, h.size, fun k hk => h.block k hk (by simp)⟩
theorem Mods.of {S : List Nat} {W W' : World} (h : Below W.heap.size W W') : Mods S W W' := ⟨h.os, h.tape, h.output, h.size, fun k hk _ => h.block k hk⟩
theorem Mods.trans {S : List Nat} {A B C : World} (h : Mods S A B) {T : List Nat} (g : Mods T B C) (hT : ∀ k ∈ T, k ∈ S ∨ A.heap.size ≤ k) : Mods S A C :=
  ⟨g.os.trans h.os, g.tape.trans h.tape, g.output.trans h.output, Nat.le_trans h.size g.size, fun k hk hS => (g.block k (Nat.lt_of_lt_of_le hk h.size) (fun e => by
    rcases hT k e with h1 | h1
    · exact hS h1
    · omega)).trans (h.block k hk hS)⟩

/-- What is owned: blocks and rows; and what is read alone: a fact about blocks that nobody writes. -/
inductive Res where
  | blk (b : Nat) (t : TypeId) (cs : Array Value)
  | row (v : Value) (t : TypeId) (size n : Nat) (xs : List Value)
  | rb (b : Nat) (t : TypeId) (cs : Array Value)
  | ro (ks : List Nat) (p : World → Prop) (hp : ∀ W W' : World, (∀ k ∈ ks, W'.heap[k]? = W.heap[k]?) → p W → p W')
def Res.keys : Res → List Nat
  | .blk b _ _ => [b]
  | .row v _ _ _ _ => v.ownBlock.toList
  | .rb .. => []
  | .ro .. => []
def Res.reads : Res → List Nat
  | .rb b _ _ => [b]
  | .ro ks _ _ => ks
  | _ => []
def Res.holds (W : World) : Res → Prop
  | .blk b t cs => W.heap[b]? = some (.cells cs t (0, 0))
  | .row v t size n xs => W.ownsRow 0 t size v n xs
  | .rb b t cs => W.heap[b]? = some (.cells cs t (0, 0))
  | .ro ks p _ => p W ∧ ∀ k ∈ ks, k < W.heap.size
theorem Res.lt {W : World} {r : Res} (h : r.holds W) : ∀ k ∈ r.keys, k < W.heap.size := by
  cases r with
  | blk b t cs =>
    intro k hk
    obtain rfl : k = b := by simpa [Res.keys] using hk
    exact (Array.getElem?_eq_some_iff.1 h).1
  | row v t size n xs =>
    intro k hk
    have : v.ownBlock = some k := by simpa [Res.keys] using hk
    exact (World.ownsRow.lt h k this).2
  | rb b t cs => intro k hk; simp [Res.keys] at hk
  | ro ks p hp => intro k hk; simp [Res.keys] at hk
theorem Res.ltR {W : World} {r : Res} (h : r.holds W) : ∀ k ∈ r.reads, k < W.heap.size := by
  cases r with
  | ro ks p hp => exact h.2
  | rb b t cs =>
    intro k hk
    obtain rfl : k = b := by simpa [Res.reads] using hk
    exact (Array.getElem?_eq_some_iff.1 h).1
  | _ => intro k hk; simp [Res.reads] at hk
theorem Res.loc {W W' : World} {r : Res} (h : r.holds W) (hs : W.heap.size ≤ W'.heap.size) (hk : ∀ k ∈ r.keys, W'.heap[k]? = W.heap[k]?) (hr : ∀ k ∈ r.reads, W'.heap[k]? = W.heap[k]?) : r.holds W' := by
  cases r with
  | blk b t cs => exact (hk b (by simp [Res.keys])).trans h
  | row v t size n xs =>
    refine ⟨h.1, ?_⟩
    rcases h.2 with h | ⟨g, cap, cur, e, hg, hc, r⟩
    · exact .inl h
    · subst e
      exact .inr ⟨g, cap, cur, rfl, hg, (hk g (by simp [Res.keys, Value.ownBlock])).trans hc, r⟩
  | rb b t cs => exact (hr b (by simp [Res.reads])).trans h
  | ro ks p hp => exact ⟨hp W W' hr h.1, fun k hk => Nat.lt_of_lt_of_le (h.2 k hk) hs⟩
/-- Two of them lie apart. -/
def Away (r s : Res) : Prop := (∀ k ∈ r.keys, k ∉ s.keys ∧ k ∉ s.reads) ∧ ∀ k ∈ s.keys, k ∉ r.reads

/-- The call began in w; it may write the blocks of S; it owns L now, in W. -/
structure Sep (w : World) (S : List Nat) (L : List Res) (W : World) : Prop where
  low : Mods S w W
  all : ∀ r ∈ L, r.holds W ∧ ∀ k ∈ r.keys, k ∈ S ∨ w.heap.size ≤ k
  dis : L.Pairwise Away
theorem Sep.start (w : World) (S : List Nat) : Sep w S [] w := ⟨Mods.refl _ _, (fun r h => by cases h), List.Pairwise.nil⟩
theorem isL {P : Program} {ops : Array Oper} {Q : Exit → Act → World → Prop} {l : List Oper} {a : Act} {w : World} (h : wpList P ops Q l a w) : wpList P ops Q l a w := h
theorem isC {P : Program} {c : Code} {Q : Exit → Act → World → Prop} {a : Act} {w : World} (h : c.wp P Q a w) : c.wp P Q a w := h
theorem isLs {P : Program} {ops : Array Oper} {Q : Exit → Act → World → Prop} {l : List Oper} {a : Act} {w : World} {p : Addr} {v : Value} (h : wpList P ops Q l a (w.setCell p v)) : wpList P ops Q l a (w.setCell p v) := h
theorem isCs {P : Program} {c : Code} {Q : Exit → Act → World → Prop} {a : Act} {w : World} {p : Addr} {v : Value} (h : c.wp P Q a (w.setCell p v)) : c.wp P Q a (w.setCell p v) := h
theorem isLd {P : Program} {ops : Array Oper} {Q : Exit → Act → World → Prop} {l : List Oper} {a : Act} {w : World} (h : wpList P ops Q l a w.drew) : wpList P ops Q l a w.drew := h
theorem isCd {P : Program} {c : Code} {Q : Exit → Act → World → Prop} {a : Act} {w : World} (h : c.wp P Q a w.drew) : c.wp P Q a w.drew := h
theorem Sep.fresh {w : World} {S : List Nat} {L : List Res} {W : World} {G : World → Prop} (h : Sep w S L W) (k : ∀ W', Sep w S L W' → G W') : G W := k W h
theorem Sep.next {w : World} {S : List Nat} {L L' : List Res} {W W0 : World} {G : World → Prop} (_ : Sep w S L W0) (h : Sep w S L' W) (k : ∀ W', Sep w S L' W' → G W') : G W := k W h
theorem Sep.below {w : World} {L : List Res} {W : World} (h : Sep w [] L W) : Below w.heap.size w W := h.low.below
theorem Sep.kept {w : World} {S : List Nat} {L : List Res} {W W' : World} {T : List Nat} (h : Sep w S L W) (hm : Mods T W W') (hT : ∀ k ∈ T, k ∈ S ∨ w.heap.size ≤ k) (hd : ∀ r ∈ L, ∀ k ∈ r.keys, k ∉ T) (hd2 : ∀ r ∈ L, ∀ k ∈ r.reads, k ∉ T) : Sep w S L W' := by
  refine ⟨h.low.trans hm hT, fun r hr => ?_, h.dis⟩
  obtain ⟨h1, h2⟩ := h.all r hr
  exact ⟨Res.loc h1 hm.size (fun k hk => hm.block k (Res.lt h1 k hk) (hd r hr k hk)) (fun k hk => hm.block k (Res.ltR h1 k hk) (hd2 r hr k hk)), h2⟩
theorem Sep.call {w : World} {S : List Nat} {L : List Res} {W W' : World} (h : Sep w S L W) (hb : Below W.heap.size W W') : Sep w S L W' :=
  h.kept (Mods.of (S := []) hb) (fun k hk => by cases hk) (fun _ _ _ _ hk => by cases hk) (fun _ _ _ _ hk => by cases hk)
theorem Sep.drew {w : World} {S : List Nat} {L : List Res} {W : World} (h : Sep w S L W) : Sep w S L W.drew := h.call (Below.refl _ _).drew
theorem Sep.drewN {w : World} {S : List Nat} {L : List Res} {W : World} (h : Sep w S L W) (n : Nat) : Sep w S L (W.drewN n) := h.call ⟨rfl, rfl, rfl, Nat.le_refl _, fun _ _ => rfl⟩
theorem Sep.junk {w : World} {S : List Nat} {L : List Res} {W : World} (h : Sep w S L W) (o : Obj) : Sep w S L (W.alloc o) := h.call ((Below.refl _ _).alloc (Nat.le_refl _) _)
theorem Sep.grow {w : World} {S : List Nat} {L : List Res} {W : World} {r : Res} (h : Sep w S L W) (hr : r.holds W) (hk : ∀ k ∈ r.keys, k ∈ S ∨ w.heap.size ≤ k) (hn : ∀ s ∈ L, Away r s) : Sep w S (r :: L) W :=
  ⟨h.low, fun s hs => by
    rcases List.mem_cons.1 hs with rfl | hs
    · exact ⟨hr, hk⟩
    · exact h.all s hs, .cons hn h.dis⟩
/-- A new block. -/
theorem Sep.alloc {w : World} {S : List Nat} {L : List Res} {W : World} (h : Sep w S L W) (cs : Array Value) (t : TypeId) : Sep w S (.blk W.heap.size t cs :: L) (W.alloc (.cells cs t)) := by
  refine (h.junk _).grow (heap_alloc_new W _) (fun k hk => ?_) (fun s hs => ⟨fun k hk => ?_, fun k hk hkr => by simp [Res.reads] at hkr⟩)
  · obtain rfl : k = W.heap.size := by simpa [Res.keys] using hk
    exact .inr h.low.size
  · obtain rfl : k = W.heap.size := by simpa [Res.keys] using hk
    exact ⟨fun hks => by have := Res.lt (h.all s hs).1 _ hks; omega, fun hks => by have := Res.ltR (h.all s hs).1 _ hks; omega⟩
/-- One of L is another one now. -/
inductive Upd : List Res → Res → Res → List Res → Prop
  | here (r r' : Res) (L : List Res) : Upd (r :: L) r r' (r' :: L)
  | there {L L' : List Res} {r r' : Res} (s : Res) (h : Upd L r r' L') : Upd (s :: L) r r' (s :: L')
theorem Upd.mem {L L' : List Res} {r r' : Res} (h : Upd L r r' L') : r ∈ L := by induction h with
  | here => simp
  | there s h ih => exact List.mem_cons_of_mem _ ih
theorem Upd.mem' {L L' : List Res} {r r' : Res} (h : Upd L r r' L') : ∀ s ∈ L', s = r' ∨ s ∈ L := by induction h with
  | here => intro s hs; rcases List.mem_cons.1 hs with h | h; exact .inl h; exact .inr (List.mem_cons_of_mem _ h)
  | there u h ih =>
    intro s hs
    rcases List.mem_cons.1 hs with rfl | hs
    · exact .inr (by simp)
    · rcases ih s hs with h | h
      · exact .inl h
      · exact .inr (List.mem_cons_of_mem _ h)
theorem Upd.mem2 {L L' : List Res} {r r' : Res} (h : Upd L r r' L') : r' ∈ L' := by induction h with
  | here => simp
  | there s h ih => exact List.mem_cons_of_mem _ ih
/-- The one that is written, and W' beside it. -/
theorem Sep.upd {w : World} {S : List Nat} {L L' : List Res} {W W' : World} {r r' : Res} (h : Sep w S L W) (u : Upd L r r' L') (hm : Mods r.keys W W') (hr : r'.holds W') (hk : ∀ k ∈ r'.keys, k ∈ r.keys ∨ W.heap.size ≤ k) (hrd : r'.reads = []) : Sep w S L' W' := by
  have hrk := (h.all r u.mem).2
  have hlow := h.low.trans hm hrk
  have hk' : ∀ k ∈ r'.keys, k ∈ S ∨ w.heap.size ≤ k := fun k hk1 => by
    rcases hk k hk1 with h1 | h1
    · exact hrk k h1
    · exact .inr (Nat.le_trans h.low.size h1)
  refine ⟨hlow, ?_, ?_⟩
  all_goals
    have hall := h.all
    have hdis := h.dis
    clear h hlow hrk
  · induction u with
    | here r r' L =>
      intro s hs
      rcases List.mem_cons.1 hs with rfl | hs
      · exact ⟨hr, hk'⟩
      · obtain ⟨h1, h2⟩ := hall s (List.mem_cons_of_mem _ hs)
        have ha := (List.pairwise_cons.1 hdis).1 s hs
        exact ⟨Res.loc h1 hm.size (fun k hks => hm.block k (Res.lt h1 k hks) (fun e => (ha.1 k e).1 hks)) (fun k hks => hm.block k (Res.ltR h1 k hks) (fun e => (ha.1 k e).2 hks)), h2⟩
    | there s0 u ih =>
      intro s hs
      rcases List.mem_cons.1 hs with rfl | hs
      · obtain ⟨h1, h2⟩ := hall s (by simp)
        have ha := (List.pairwise_cons.1 hdis).1 _ u.mem
        exact ⟨Res.loc h1 hm.size (fun k hks => hm.block k (Res.lt h1 k hks) (fun e => (ha.1 k hks).1 e)) (fun k hks => hm.block k (Res.ltR h1 k hks) (fun e => ha.2 k e hks)), h2⟩
      · exact ih hm hr hk hrd hk' (fun s hs => hall s (List.mem_cons_of_mem _ hs)) (List.pairwise_cons.1 hdis).2 s hs
  · induction u with
    | here r r' L =>
      refine .cons (fun s hs => ⟨fun k hk1 => ?_, fun k hks hkr => by rw [hrd] at hkr; cases hkr⟩) (List.pairwise_cons.1 hdis).2
      have ha := (List.pairwise_cons.1 hdis).1 s hs
      rcases hk k hk1 with h1 | h1
      · exact ha.1 k h1
      · have hs1 := (hall s (List.mem_cons_of_mem _ hs)).1
        exact ⟨fun e => by have := Res.lt hs1 k e; omega, fun e => by have := Res.ltR hs1 k e; omega⟩
    | there s0 u ih =>
      refine .cons (fun s hs => ?_) (ih hm hr hk hrd hk' (fun s hs => hall s (List.mem_cons_of_mem _ hs)) (List.pairwise_cons.1 hdis).2)
      have h0 := (hall s0 (by simp)).1
      rcases u.mem' s hs with rfl | hs
      · have ha := (List.pairwise_cons.1 hdis).1 _ u.mem
        refine ⟨fun k hk1 => ⟨fun hks => ?_, fun hks => by rw [hrd] at hks; cases hks⟩, fun k hks hkr => ?_⟩
        · rcases hk k hks with h1 | h1
          · exact (ha.1 k hk1).1 h1
          · have := Res.lt h0 k hk1; omega
        · rcases hk k hks with h1 | h1
          · exact ha.2 k h1 hkr
          · have := Res.ltR h0 k hkr; omega
      · exact (List.pairwise_cons.1 hdis).1 s hs
/-- A cell of a block, or of a row, is another one now. -/
inductive UpdC (b i : Nat) (v : Value) : List Res → List Res → Prop
  | blk (t : TypeId) (cs : Array Value) (L : List Res) : UpdC b i v (.blk b t cs :: L) (.blk b t (cs.setIfInBounds i v) :: L)
  | row (t : TypeId) (size n c : Nat) (xs : List Value) (L : List Res) : UpdC b i v (.row (.slice (some ⟨b, 0, none⟩) n c) t size n xs :: L) (.row (.slice (some ⟨b, 0, none⟩) n c) t size n (xs.set i v) :: L)
  | there (s : Res) {L L' : List Res} (h : UpdC b i v L L') : UpdC b i v (s :: L) (s :: L')
theorem UpdC.upd {b i : Nat} {v : Value} {L L' : List Res} (h : UpdC b i v L L') : ∃ r r', Upd L r r' L' ∧ r.keys = [b] ∧ r'.keys = [b] ∧ (∀ W : World, r.holds W → r'.holds (W.setCell ⟨b, i, none⟩ v)) ∧ r'.reads = [] := by
  induction h with
  | blk t cs L => exact ⟨_, _, Upd.here _ _ _, rfl, rfl, (fun W hW => heap_setCell_same W b i cs t v hW), rfl⟩
  | row t size n c xs L =>
    refine ⟨_, _, Upd.here _ _ _, rfl, rfl, (fun W hW => ?_), rfl⟩
    rcases hW.2 with ⟨e, _⟩ | ⟨g, cap, cur, e, hg, hh, r1, r2, r3, r4⟩
    · cases e
    · cases e
      refine ⟨by rw [List.length_set]; exact hW.1, .inr ⟨b, c, cur.setIfInBounds i v, rfl, Nat.zero_le _, heap_setCell_same W b i cur t v hh, r1, r2, by simpa using r3, ?_⟩⟩
      rw [Array.toList_setIfInBounds, List.take_set, r4]
  | there s h ih =>
    obtain ⟨r, r', u, h1, h2, h3, h4⟩ := ih
    exact ⟨r, r', Upd.there s u, h1, h2, h3, h4⟩
/-- A cell is written. -/
theorem Sep.set {w : World} {S : List Nat} {L L' : List Res} {W : World} {b i : Nat} {v : Value} (h : Sep w S L W) (u : UpdC b i v L L') : Sep w S L' (W.setCell ⟨b, i, none⟩ v) := by
  obtain ⟨r, r', u, h1, h2, h3, h4⟩ := u.upd
  refine h.upd u ⟨rfl, rfl, rfl, by simp [World.setCell], fun k hk hn => ?_⟩ (h3 W (h.all _ u.mem).1) (fun k hk => .inl ?_) h4
  · exact Below.heap_setCell _ _ _ _ (fun e => hn (by rw [h1]; simp; exact e))
  · rw [h1]; rw [h2] at hk; exact hk
/-- Fewer. -/
theorem Sep.sub {w : World} {S : List Nat} {L L' : List Res} {W : World} (h : Sep w S L W) (hs : List.Sublist L' L) : Sep w S L' W :=
  ⟨h.low, fun r hr => h.all r (hs.mem hr), h.dis.sublist hs⟩
/-- What is known of the memory that is owned, for the walk. -/
def cellFacts (W : World) (b : Nat) : Nat → List Value → Prop
  | _, [] => True
  | i, v :: vs => W.cell? ⟨b, i, none⟩ = some v ∧ cellFacts W b (i + 1) vs
theorem cellFacts_of {W : World} {b : Nat} : ∀ {i : Nat} {vs : List Value}, (∀ j v, vs[j]? = some v → W.cell? ⟨b, i + j, none⟩ = some v) → cellFacts W b i vs
  | _, [], _ => trivial
  | i, v :: vs, h => ⟨h 0 v rfl, cellFacts_of fun j u hj => by rw [show i + 1 + j = i + (j + 1) by omega]; exact h (j + 1) u (by simpa using hj)⟩
def Res.facts (W : World) : Res → Prop
  | .blk b _ cs => cellFacts W b 0 cs.toList ∧ (∀ i, W.frozen? ⟨b, i, none⟩ = false) ∧ b < W.heap.size
  | .row (.slice (some ⟨g, 0, none⟩) _ _) _ _ _ xs => (∀ i, i < xs.length → W.cell? ⟨g, i, none⟩ = some (xs[i]?.getD undef)) ∧ (∀ i, W.frozen? ⟨g, i, none⟩ = false) ∧ g < W.heap.size
  | .row .. => True
  | .rb b _ cs => cellFacts W b 0 cs.toList ∧ b < W.heap.size
  | .ro .. => True
def Facts (W : World) : List Res → Prop
  | [] => True
  | r :: L => r.facts W ∧ Facts W L
theorem blk_cell {W : World} {b : Nat} {t : TypeId} {cs : Array Value} (h : W.heap[b]? = some (.cells cs t (0, 0))) (i : Nat) : W.cell? ⟨b, i, none⟩ = cs[i]? := by
  unfold World.cell?
  simp [h]
theorem blk_frozen {W : World} {b : Nat} {t : TypeId} {cs : Array Value} (h : W.heap[b]? = some (.cells cs t (0, 0))) (i : Nat) : W.frozen? ⟨b, i, none⟩ = false := by
  unfold World.frozen?
  simp [h]
theorem facts_of {W : World} : ∀ {L : List Res}, (∀ r ∈ L, r.holds W) → Facts W L
  | [], _ => trivial
  | r :: L, h => ⟨by
      have h1 := h r (by simp)
      cases r with
      | blk b t cs => exact ⟨cellFacts_of fun j v hj => by rw [Nat.zero_add, blk_cell h1]; simpa using hj, blk_frozen h1, (Array.getElem?_eq_some_iff.1 h1).1⟩
      | row v t size n xs =>
        unfold Res.facts
        split
        · rename_i h; cases h
        · rename_i g n' c t' size' n'' xs' h
          cases h
          rcases h1.2 with ⟨e, _⟩ | ⟨g', cap, cur, e, hg, hh, r1, r2, r3, r4⟩
          · cases e
          · cases e
            refine ⟨fun i hi => ?_, blk_frozen hh, (Array.getElem?_eq_some_iff.1 hh).1⟩
            rw [blk_cell hh, ← r4]
            have hl : i < n * size := by rw [← h1.1]; exact hi
            rw [List.getElem?_take_of_lt hl]
            have hc : i < cur.size := by rw [r3]; exact Nat.lt_of_lt_of_le hl (Nat.mul_le_mul_right _ r1)
            simp [hc]
        · trivial
        · rename_i h; cases h
        · trivial
      | rb b t cs => exact ⟨cellFacts_of fun j v hj => by rw [Nat.zero_add, blk_cell h1]; simpa using hj, (Array.getElem?_eq_some_iff.1 h1).1⟩
      | ro => trivial, facts_of fun r hr => h r (List.mem_cons_of_mem _ hr)⟩
theorem Sep.facts {w : World} {S : List Nat} {L : List Res} {W : World} (h : Sep w S L W) : Facts W L := facts_of fun r hr => (h.all r hr).1
/-- What is known in W: what is owned, and that old cells are as they were. -/
theorem Sep.know {w : World} {S : List Nat} {L : List Res} {W : World} (h : Sep w S L W) : (∀ b i, b < w.heap.size → b ∉ S → W.cell? ⟨b, i, none⟩ = w.cell? ⟨b, i, none⟩) ∧ (w.heap.size ≤ W.heap.size) ∧ Facts W L :=
  ⟨fun b i hb hS => World.cell?_of_block (a := ⟨b, i, none⟩) (h.low.block b hb hS), h.low.size, h.facts⟩
/-- A fact that is only read, laid beside. -/
theorem Sep.ro {w : World} {S : List Nat} {L : List Res} {W : World} (h : Sep w S L W) (ks : List Nat) (p : World → Prop) (hp : ∀ W W' : World, (∀ k ∈ ks, W'.heap[k]? = W.heap[k]?) → p W → p W') (hW : p W) (hl : ∀ k ∈ ks, k < W.heap.size) (hd : ∀ s ∈ L, ∀ k ∈ s.keys, k ∉ ks) : Sep w S (.ro ks p hp :: L) W :=
  h.grow ⟨hW, hl⟩ (fun k hk => by simp [Res.keys] at hk) (fun s hs => ⟨fun k hk => by simp [Res.keys] at hk, fun k hk => hd s hs k hk⟩)
theorem Sep.fact {w : World} {S : List Nat} {L L' : List Res} {W : World} {ks : List Nat} {p : World → Prop} {hp : ∀ W W' : World, (∀ k ∈ ks, W'.heap[k]? = W.heap[k]?) → p W → p W'} (h : Sep w S L W) (u : Upd L (.ro ks p hp) (.ro ks p hp) L') : p W := (h.all _ u.mem).1.1
/-- Blocks that nobody writes any more are only read. -/
inductive Frz : List Res → List Res → Prop
  | nil : Frz [] []
  | blk (b : Nat) (t : TypeId) (cs : Array Value) {L L' : List Res} (h : Frz L L') : Frz (.blk b t cs :: L) (.rb b t cs :: L')
  | keep (r : Res) {L L' : List Res} (h : Frz L L') : Frz (r :: L) (r :: L')
theorem Frz.of {L L' : List Res} (f : Frz L L') : (∀ s ∈ L', ∃ r ∈ L, (∀ W : World, r.holds W → s.holds W) ∧ (∀ k ∈ s.keys, k ∈ r.keys) ∧ ∀ k ∈ s.reads, k ∈ r.keys ∨ k ∈ r.reads) ∧ (L.Pairwise Away → L'.Pairwise Away) := by
  induction f with
  | nil => exact ⟨(fun s hs => by cases hs), fun h => h⟩
  | blk b t cs f ih =>
    refine ⟨fun s hs => ?_, fun h => ?_⟩
    · rcases List.mem_cons.1 hs with rfl | hs
      · exact ⟨.blk b t cs, by simp, fun W h => h, (fun k hk => by simp [Res.keys] at hk), fun k hk => .inl (by simpa [Res.keys, Res.reads] using hk)⟩
      · obtain ⟨r, hr, h⟩ := ih.1 s hs; exact ⟨r, List.mem_cons_of_mem _ hr, h⟩
    · refine .cons (fun s hs => ⟨(fun k hk => by simp [Res.keys] at hk), fun k hk hkr => ?_⟩) (ih.2 (List.pairwise_cons.1 h).2)
      obtain ⟨r, hr, _, h2, _⟩ := ih.1 s hs
      have ha := (List.pairwise_cons.1 h).1 r hr
      obtain rfl : k = b := by simpa [Res.reads] using hkr
      exact (ha.1 k (by simp [Res.keys])).1 (h2 k hk)
  | keep r f ih =>
    refine ⟨fun s hs => ?_, fun h => ?_⟩
    · rcases List.mem_cons.1 hs with rfl | hs
      · exact ⟨s, by simp, fun W h => h, fun k hk => hk, fun k hk => .inr hk⟩
      · obtain ⟨r', hr, h⟩ := ih.1 s hs; exact ⟨r', List.mem_cons_of_mem _ hr, h⟩
    · refine .cons (fun s hs => ?_) (ih.2 (List.pairwise_cons.1 h).2)
      obtain ⟨r', hr, _, h2, h3⟩ := ih.1 s hs
      have ha := (List.pairwise_cons.1 h).1 r' hr
      refine ⟨fun k hk => ⟨fun e => (ha.1 k hk).1 (h2 k e), fun e => ?_⟩, fun k hk e => ha.2 k (h2 k hk) e⟩
      rcases h3 k e with e | e
      · exact (ha.1 k hk).1 e
      · exact (ha.1 k hk).2 e
theorem Sep.freeze {w : World} {S : List Nat} {L L' : List Res} {W : World} (h : Sep w S L W) (f : Frz L L') : Sep w S L' W := by
  obtain ⟨h1, h2⟩ := f.of
  refine ⟨h.low, fun s hs => ?_, h2 h.dis⟩
  obtain ⟨r, hr, g1, g2, _⟩ := h1 s hs
  exact ⟨g1 W (h.all r hr).1, fun k hk => (h.all r hr).2 k (g2 k hk)⟩
end Go.Proofs.Ytbfhgcnfhjhgcaa
namespace Go.Proofs.Ytbfhgcnfhjhgcaa
open Go.RowKit
set_option linter.unusedVariables false
set_option linter.unusedSimpArgs false

/-- What an operation hands back, and the world behind it. -/
def givesUpon (P : Program) (R : Value → World → Prop) : Result Next → Prop
  | .ok (.value v) w' => R v w'
  | .ok .skip w' => R undef w'
  | .ok (.enter f args) w' => Calls P f args w' fun e w'' => ∃ v, e = .returned v ∧ R v w''
  | _ => False
def gives (P : Program) (o : Oper) (a : Act) (w : World) (R : Value → World → Prop) : Prop := givesUpon P R ((execOp a.eval o).run P w)
attribute [go_sem] gives givesUpon
theorem wp_of_gives {P : Program} {o : Oper} {a : Act} {w : World} {R : Value → World → Prop} {K : Act → World → Prop} {Q : Exit → Act → World → Prop} (h : gives P o a w R) (hK : ∀ v w', R v w' → K (a.put o.dst v) w') : o.wp P a w K Q := by
  unfold gives at h
  unfold Oper.wp
  generalize (execOp a.eval o).run P w = r at *
  cases r with
  | ok n w' =>
    cases n <;> simp only [givesUpon] at h <;> simp only [Oper.upon]
    case value v => exact hK _ _ h
    case skip => exact hK _ _ h
    case enter f args => exact h.mono fun e w'' ⟨v, he, hr⟩ => by subst he; exact hK _ _ hr
  | halt x w' => simp only [givesUpon] at h

abbrev Phi := Value → World → Prop
/-- What is known of a slot that the region writes: of its value; of the new blocks that it stands for. -/
structure Ent where
  d : Nat
  phi : Phi
  key : Value → List Nat
def putAll (a : Act) (vs : Nat → Value) (ds : List Nat) : Act := ds.foldl (fun a d => a.put (some d) (vs d)) a
def entOf (es : List Ent) (d : Nat) : Option Ent := es.find? (fun e => e.d == d)
def tmpF (es : List Ent) (vs : Nat → Value) (W : World) : Operand → Prop
  | .tmp t => match entOf es t with | some e => e.phi (vs t) W | none => True
  | _ => True
def guardF (ops : Array Oper) (es : List Ent) (vs : Nat → Value) (W : World) (o : Oper) : Prop :=
  match o.guard with
  | some (g, _) => match (ops[g]?).bind (·.dst) with | some t => tmpF es vs W (.tmp t) | none => True
  | none => True
def allOf (p : Operand → Prop) : List Operand → Prop
  | [] => True
  | x :: l => p x ∧ allOf p l
/-- What is known of all that the operation looks at. -/
def OpF (ops : Array Oper) (es : List Ent) (o : Oper) (vs : Nat → Value) (W : World) : Prop :=
  allOf (tmpF es vs W) o.op.operands.toList ∧ guardF ops es vs W o
def AllF (vs : Nat → Value) (W : World) : List Ent → Prop
  | [] => True
  | e :: es => e.phi (vs e.d) W ∧ AllF vs W es
def Apart (vs : Nat → Value) : List Ent → Prop
  | [] => True
  | e :: es => (∀ f ∈ es, ∀ k ∈ e.key (vs e.d), k ∉ f.key (vs f.d)) ∧ Apart vs es
def Rely (P : Program) (ops : Array Oper) (C : World → Prop) (Q : Exit → Act → World → Prop) (A : (Nat → Value) → Act) (tail : List Oper) : List Oper → List Ent → Prop
  | [], es => ∀ vs W, C W → AllF vs W es → Apart vs es → wpList P ops Q tail (A vs) W
  | o :: l, es => ∃ (phi : Phi) (key : Value → List Nat), (∀ v W W', phi v W → Below W.heap.size W W' → phi v W') ∧
      (∀ vs W, C W → OpF ops es o vs W → if Region.wanted o (yielded ops (A vs).tmps) then gives P o (A vs) W (fun v W' => C W' ∧ Below W.heap.size W W' ∧ phi v W' ∧ ∀ k ∈ key v, W.heap.size ≤ k ∧ k < W'.heap.size) else phi undef W ∧ key undef = []) ∧
      Rely P ops C Q A tail l (match o.dst with | some d => ⟨d, phi, key⟩ :: es | none => es)
/-- One value, whatever was done beside it. -/
theorem rely_det {P : Program} {ops : Array Oper} {C : World → Prop} {Q : Exit → Act → World → Prop} {A : (Nat → Value) → Act} {tail l : List Oper} {es : List Ent} {o : Oper} {d : Nat} (t : Value) (hd : o.dst = some d)
    (h1 : ∀ vs W, C W → OpF ops es o vs W → if Region.wanted o (yielded ops (A vs).tmps) then gives P o (A vs) W (fun v W' => C W' ∧ Below W.heap.size W W' ∧ v = t) else undef = t)
    (h2 : Rely P ops C Q A tail l (⟨d, fun v _ => v = t, fun _ => []⟩ :: es)) : Rely P ops C Q A tail (o :: l) es := by
  refine ⟨fun v _ => v = t, fun _ => [], fun v W W' h _ => h, fun vs W hC hO => ?_, by rw [hd]; exact h2⟩
  have h := h1 vs W hC hO
  split
  · rename_i hw
    rw [if_pos hw] at h
    unfold gives at *
    generalize (execOp (A vs).eval o).run P W = r at *
    cases r with
    | ok n w' =>
      cases n <;> simp only [givesUpon] at h ⊢
      case value v => exact ⟨h.1, h.2.1, h.2.2, fun k hk => by cases hk⟩
      case skip => exact ⟨h.1, h.2.1, h.2.2, fun k hk => by cases hk⟩
      case enter f args => exact h.mono fun e w'' ⟨v, he, g1, g2, g3⟩ => ⟨v, he, g1, g2, g3, fun k hk => by cases hk⟩
    | halt x w' => simp only [givesUpon] at h
  · rename_i hw
    rw [if_neg hw] at h
    exact ⟨h, rfl⟩

/-! ### why it is so -/
theorem putAll_defers (vs : Nat → Value) : ∀ (ds : List Nat) (a : Act), (putAll a vs ds).defers = a.defers
  | [], _ => rfl
  | d :: ds, a => putAll_defers vs ds (a.put (some d) (vs d))
theorem putAll_get (vs : Nat → Value) : ∀ (ds : List Nat) (a : Act) (t : Nat), (putAll a vs ds).tmps[t]? = if t ∈ ds ∧ t < a.tmps.size then some (vs t) else a.tmps[t]?
  | [], a, t => by simp [putAll]
  | d :: ds, a, t => by
    have h := putAll_get vs ds (a.put (some d) (vs d)) t
    have e : putAll a vs (d :: ds) = putAll (a.put (some d) (vs d)) vs ds := rfl
    rw [e, h]
    have hs : (a.put (some d) (vs d)).tmps.size = a.tmps.size := by simp [Act.put]
    rw [hs]
    by_cases h1 : t ∈ ds
    · simp [h1, Act.put]
      by_cases h2 : t < a.tmps.size
      · simp [h2]
      · simp [h2, Array.getElem?_setIfInBounds]
    · by_cases h2 : t = d
      · subst h2
        by_cases h3 : t < a.tmps.size
        · simp [h1, h3, Act.put]
        · simp [h1, h3, Act.put]
      · simp [h1, h2, Act.put, Array.getElem?_setIfInBounds_ne (Ne.symm h2)]
theorem putAll_size (vs : Nat → Value) : ∀ (ds : List Nat) (a : Act), (putAll a vs ds).tmps.size = a.tmps.size
  | [], _ => rfl
  | d :: ds, a => by
    have h := putAll_size vs ds (a.put (some d) (vs d))
    have e : putAll a vs (d :: ds) = putAll (a.put (some d) (vs d)) vs ds := rfl
    rw [e, h]
    simp [Act.put]
theorem putAll_same (a : Act) (ds : List Nat) : putAll a (fun t => a.tmps.getD t undef) ds = a := by
  have h1 : (putAll a (fun t => a.tmps.getD t undef) ds).tmps = a.tmps := by
    apply Array.ext_getElem?
    intro t
    rw [putAll_get]
    split
    · rename_i h
      simp [h.2]
    · rfl
  have h2 := putAll_defers (fun t => a.tmps.getD t undef) ds a
  cases hx : putAll a (fun t => a.tmps.getD t undef) ds
  rw [hx] at h1 h2
  simp only at h1 h2
  rw [h1, h2]
def updV (vs : Nat → Value) (d : Nat) (v : Value) : Nat → Value := fun t => if t = d then v else vs t
theorem putAll_put (vs : Nat → Value) (ds : List Nat) (a : Act) (d : Nat) (v : Value) (hd : d ∈ ds) : (putAll a vs ds).put (some d) v = putAll a (updV vs d v) ds := by
  have h1 : ((putAll a vs ds).put (some d) v).tmps = (putAll a (updV vs d v) ds).tmps := by
    apply Array.ext_getElem?
    intro t
    rw [putAll_get]
    simp only [Act.put]
    by_cases e : t = d
    · subst e
      by_cases h3 : t < a.tmps.size
      · simp [hd, h3, putAll_size, updV]
      · simp [hd, h3, putAll_size, updV]
    · rw [Array.getElem?_setIfInBounds_ne (Ne.symm e), putAll_get]
      simp [updV, e]
  have h2 : ((putAll a vs ds).put (some d) v).defers = (putAll a (updV vs d v) ds).defers := by simp [Act.put, putAll_defers]
  cases hx : (putAll a vs ds).put (some d) v
  cases hy : putAll a (updV vs d v) ds
  rw [hx, hy] at h1 h2
  simp only at h1 h2
  rw [h1, h2]

/-- What is asked of the region, by looking. -/
def relyB (ops : Array Oper) (n : Nat) (ds : List Nat) : Bool :=
  decide (n ≤ ops.size) &&
  ((List.range n).all fun i => match ops[i]? with
    | none => false
    | some o => (o.after.all fun e => !Region.binds .any e || decide (e.on < i)) &&
      (match o.dst with | some d => ds.contains d && ((List.range n).all fun j => decide (j = i) || !((ops[j]?).bind (·.dst) == some d)) | none => true) &&
      ((List.range n).all fun j => match (ops[j]?).bind (·.dst) with
        | some d => !((o.looksAt ops).contains d) || Region.waitsFor .any ops i j
        | none => true)) &&
  (decide (n = ops.size) || (Region.sinkB .any ops n && Region.chainB .any ops n)) &&
  Region.seqB .any ops (ops.size - n) n ((Array.replicate n true) ++ Array.replicate (ops.size - n) false)
structure RelyOk (ops : Array Oper) (n : Nat) (ds : List Nat) : Prop where
  le : n ≤ ops.size
  up : ∀ i o, i < n → ops[i]? = some o → ∀ e ∈ o.after, Region.binds .any e = true → e.on < i
  mem : ∀ i o d, i < n → ops[i]? = some o → o.dst = some d → d ∈ ds
  one : ∀ i j o o' d, i < n → j < n → ops[i]? = some o → ops[j]? = some o' → o.dst = some d → o'.dst = some d → j = i
  look : ∀ i j o o' d, i < n → j < n → ops[i]? = some o → ops[j]? = some o' → o'.dst = some d → d ∈ o.looksAt ops → Region.waitsFor .any ops i j = true
  tail : n = ops.size ∨ (Region.sinkB .any ops n = true ∧ Region.chainB .any ops n = true)
  seq : Region.seqB .any ops (ops.size - n) n ((Array.replicate n true) ++ Array.replicate (ops.size - n) false) = true
theorem relyOk {ops : Array Oper} {n : Nat} {ds : List Nat} (h : relyB ops n ds = true) : RelyOk ops n ds := by
  simp only [relyB, Bool.and_eq_true, Bool.or_eq_true, decide_eq_true_eq] at h
  obtain ⟨⟨⟨h1, h2⟩, h3⟩, h4⟩ := h
  have key : ∀ i o, i < n → ops[i]? = some o → (∀ e ∈ o.after, Region.binds .any e = true → e.on < i) ∧ (∀ d, o.dst = some d → d ∈ ds ∧ ∀ j, j < n → j = i ∨ (ops[j]?).bind (·.dst) ≠ some d) ∧ (∀ j d, j < n → (ops[j]?).bind (·.dst) = some d → d ∈ o.looksAt ops → Region.waitsFor .any ops i j = true) := by
    intro i o hi ho
    have h := List.all_eq_true.1 h2 i (List.mem_range.2 hi)
    simp only [ho, Bool.and_eq_true] at h
    obtain ⟨⟨a, b⟩, c⟩ := h
    refine ⟨fun e he hb => ?_, fun d hd => ?_, fun j d hj hd hl => ?_⟩
    · have := Array.all_eq_true'.1 a e he
      simpa [hb] using this
    · simp only [hd, Bool.and_eq_true] at b
      refine ⟨by simpa using b.1, fun j hj => ?_⟩
      have := List.all_eq_true.1 b.2 j (List.mem_range.2 hj)
      simpa using this
    · have := List.all_eq_true.1 c j (List.mem_range.2 hj)
      simp only [hd] at this
      simpa [hl] using this
  refine ⟨h1, fun i o hi ho => (key i o hi ho).1, fun i o d hi ho hd => ((key i o hi ho).2.1 d hd).1, fun i j o o' d hi hj ho ho' hd hd' => ?_, fun i j o o' d hi hj ho ho' hd hl => (key i o hi ho).2.2 j d hj (by simp [ho', hd]) hl, h3, h4⟩
  rcases ((key i o hi ho).2.1 d hd).2 j hj with h | h
  · exact h
  · exact absurd (by simp [ho', hd']) h

/-- The step of one operation. -/
def StepOf (P : Program) (ops : Array Oper) (C : World → Prop) (A : (Nat → Value) → Act) (es : List Ent) (o : Oper) (phi : Phi) (key : Value → List Nat) : Prop :=
  ∀ vs W, C W → OpF ops es o vs W → if Region.wanted o (yielded ops (A vs).tmps) then gives P o (A vs) W (fun v W' => C W' ∧ Below W.heap.size W W' ∧ phi v W' ∧ ∀ k ∈ key v, W.heap.size ≤ k ∧ k < W'.heap.size) else phi undef W ∧ key undef = []
def Stab (phi : Phi) : Prop := ∀ v W W', phi v W → Below W.heap.size W W' → phi v W'
structure Flat (P : Program) (ops : Array Oper) (C : World → Prop) (Q : Exit → Act → World → Prop) (A : (Nat → Value) → Act) (tail l : List Oper) (es esF : List Ent) : Prop where
  sub : ∀ e ∈ es, e ∈ esF
  from_ : ∀ e ∈ esF, e ∈ es ∨ (Stab e.phi ∧ ∃ (k : Nat) (o : Oper), l[k]? = some o ∧ o.dst = some e.d)
  pair : esF.Pairwise (fun e f => e.d ≠ f.d)
  step : ∀ (k : Nat) (o : Oper), l[k]? = some o → ∃ phi key es', (∀ e ∈ es', e ∈ esF) ∧ StepOf P ops C A es' o phi key ∧ ∀ d, o.dst = some d → ⟨d, phi, key⟩ ∈ esF
  fin : ∀ vs W, C W → AllF vs W esF → Apart vs esF → wpList P ops Q tail (A vs) W
theorem rely_flat {P : Program} {ops : Array Oper} {C : World → Prop} {Q : Exit → Act → World → Prop} {A : (Nat → Value) → Act} {tail : List Oper} : ∀ (l : List Oper) (es : List Ent),
    (∀ (i j : Nat) (o o' : Oper) (d : Nat), l[i]? = some o → l[j]? = some o' → o.dst = some d → o'.dst = some d → j = i) → (∀ e ∈ es, ∀ (k : Nat) (o : Oper), l[k]? = some o → o.dst ≠ some e.d) → es.Pairwise (fun e f => e.d ≠ f.d) →
    Rely P ops C Q A tail l es → ∃ esF, Flat P ops C Q A tail l es esF
  | [], es, _, _, hp, h => ⟨es, fun e he => he, fun e he => .inl he, hp, fun k o h => by simp at h, h⟩
  | o :: l, es, h1, h2, hp, h => by
    obtain ⟨phi, key, hst, hstep, hrest⟩ := h
    have g1 : ∀ (i j : Nat) (o o' : Oper) (d : Nat), l[i]? = some o → l[j]? = some o' → o.dst = some d → o'.dst = some d → j = i := fun i j o o' d a b c e => by
      have := h1 (i + 1) (j + 1) o o' d (by simpa using a) (by simpa using b) c e
      omega
    cases hd : o.dst with
    | none =>
      rw [hd] at hrest
      obtain ⟨esF, F⟩ := rely_flat l es g1 (fun e he k o' ho => h2 e he (k + 1) o' (by simpa using ho)) hp hrest
      refine ⟨esF, F.sub, fun e he => ?_, F.pair, fun k o' ho => ?_, F.fin⟩
      · rcases F.from_ e he with g | ⟨g, k, o', a, b⟩
        · exact .inl g
        · exact .inr ⟨g, k + 1, o', by simpa using a, b⟩
      · cases k with
        | zero =>
          obtain rfl : o = o' := by simpa using ho
          exact ⟨phi, key, es, F.sub, hstep, fun d e => by rw [hd] at e; cases e⟩
        | succ k => exact F.step k o' (by simpa using ho)
    | some d =>
      rw [hd] at hrest
      have hne : ∀ e ∈ es, d ≠ e.d := fun e he e1 => h2 e he 0 o rfl (by rw [hd, e1])
      obtain ⟨esF, F⟩ := rely_flat l (⟨d, phi, key⟩ :: es) g1 (fun e he k o' ho => by
        rcases List.mem_cons.1 he with rfl | he
        · intro e1
          have := h1 0 (k + 1) o o' d rfl (by simpa using ho) hd e1
          omega
        · exact h2 e he (k + 1) o' (by simpa using ho)) (.cons (fun e he => hne e he) hp) hrest
      refine ⟨esF, fun e he => F.sub e (List.mem_cons_of_mem _ he), fun e he => ?_, F.pair, fun k o' ho => ?_, F.fin⟩
      · rcases F.from_ e he with g | ⟨g, k, o', a, b⟩
        · rcases List.mem_cons.1 g with rfl | g
          · exact .inr ⟨hst, 0, o, rfl, hd⟩
          · exact .inl g
        · exact .inr ⟨g, k + 1, o', by simpa using a, b⟩
      · cases k with
        | zero =>
          obtain rfl : o = o' := by simpa using ho
          exact ⟨phi, key, es, fun e he => F.sub e (List.mem_cons_of_mem _ he), hstep, fun d' e => by
            rw [hd] at e; cases e; exact F.sub _ (by simp)⟩
        | succ k => exact F.step k o' (by simpa using ho)
theorem uniq_of {es : List Ent} (h : es.Pairwise (fun e f => e.d ≠ f.d)) : ∀ e ∈ es, ∀ f ∈ es, e.d = f.d → e = f := by
  induction h with
  | nil => intro e he; cases he
  | cons h _ ih =>
    intro e he f hf hd
    rcases List.mem_cons.1 he with e1 | he' <;> rcases List.mem_cons.1 hf with e2 | hf'
    · rw [e1, e2]
    · exact absurd (by rw [← e1]; exact hd) (h f hf')
    · exact absurd (by rw [← e2]; exact hd.symm) (h e he')
    · exact ih e he' f hf' hd
/-- The operations that write this slot are done. -/
def DoneD (ops : Array Oper) (n : Nat) (listed : Array Bool) (d : Nat) : Prop := ∀ (j : Nat) (o : Oper), j < n → ops[j]? = some o → o.dst = some d → listed.getD j false = true
structure RJ (ops : Array Oper) (C : World → Prop) (n : Nat) (esF : List Ent) (listed : Array Bool) (vs : Nat → Value) (W : World) : Prop where
  c : C W
  phi : ∀ e ∈ esF, DoneD ops n listed e.d → e.phi (vs e.d) W
  lt : ∀ e ∈ esF, DoneD ops n listed e.d → ∀ k ∈ e.key (vs e.d), k < W.heap.size
  ap : ∀ e ∈ esF, ∀ f ∈ esF, DoneD ops n listed e.d → DoneD ops n listed f.d → e.d ≠ f.d → ∀ k ∈ e.key (vs e.d), k ∉ f.key (vs f.d)
def left (n : Nat) (listed : Array Bool) : Nat := ((List.range n).filter fun i => !listed.getD i false).length
theorem left_set {n i : Nat} {listed : Array Bool} (hi : i < n) (hl : listed.getD i false = false) (hs : i < listed.size) : left n listed = left n (listed.setIfInBounds i true) + 1 := by
  unfold left
  induction n with
  | zero => omega
  | succ n ih =>
    rw [List.range_succ, List.filter_append, List.filter_append, List.length_append, List.length_append]
    by_cases e : i = n
    · subst e
      have h1 : (List.range i).filter (fun j => !(listed.setIfInBounds i true).getD j false) = (List.range i).filter (fun j => !listed.getD j false) := by
        apply List.filter_congr
        intro j hj
        have : j < i := List.mem_range.1 hj
        rw [getD_set_ne false (by omega)]
      have e1 : (listed.setIfInBounds i true).getD i false = true := by simp [hs]
      rw [h1]
      simp only [List.filter_cons, List.filter_nil, hl, e1]
      rfl
    · have := ih (by omega)
      have h2 : (listed.setIfInBounds i true).getD n false = listed.getD n false := getD_set_ne false (by omega)
      rw [this]
      simp only [List.filter_cons, List.filter_nil, h2]
      omega
theorem left_zero {n : Nat} {listed : Array Bool} (h : left n listed = 0) : ∀ i, i < n → listed.getD i false = true := by
  intro i hi
  unfold left at h
  have h1 := List.eq_nil_of_length_eq_zero h
  have := List.filter_eq_nil_iff.1 h1 i (List.mem_range.2 hi)
  simpa using this
theorem left_succ {n c : Nat} {listed : Array Bool} (h : left n listed = c + 1) : ∃ i, i < n ∧ listed.getD i false = false := by
  unfold left at h
  obtain ⟨i, hi⟩ : ∃ i, i ∈ (List.range n).filter fun i => !listed.getD i false := by
    cases hx : (List.range n).filter fun i => !listed.getD i false with
    | nil => rw [hx] at h; cases h
    | cons a l => exact ⟨a, by simp⟩
  have := List.mem_filter.1 hi
  exact ⟨i, List.mem_range.1 this.1, by simpa using this.2⟩

theorem allOf_of {p : Operand → Prop} : ∀ {l : List Operand}, (∀ x ∈ l, p x) → allOf p l
  | [], _ => trivial
  | x :: l, h => ⟨h x (by simp), allOf_of fun y hy => h y (List.mem_cons_of_mem _ hy)⟩
theorem entOf_mem {es : List Ent} {t : Nat} {e : Ent} (h : entOf es t = some e) : e ∈ es ∧ e.d = t := by
  unfold entOf at h
  exact ⟨List.mem_of_find?_eq_some h, by have := List.find?_some h; simpa using this⟩
theorem doneD_of {ops : Array Oper} {n : Nat} {ds : List Nat} (R : RelyOk ops n ds) {listed : Array Bool} {i t : Nat} {o : Oper} (hi : i < n) (ho : ops[i]? = some o) (hall : ∀ e ∈ o.after, Region.binds .any e = true → listed.getD e.on false = true) (hl : t ∈ o.looksAt ops) : DoneD ops n listed t := by
  intro j o' hj ho' hd
  have h := R.look i j o o' t hi hj ho ho' hd hl
  obtain ⟨oj, hoj, e, he, hb, hon⟩ := Region.waitsFor_spec h
  rw [ho] at hoj; cases hoj
  rw [← hon]
  exact hall e he hb
theorem opF_of {ops : Array Oper} {C : World → Prop} {n : Nat} {ds : List Nat} (R : RelyOk ops n ds) {listed : Array Bool} {i : Nat} {o : Oper} (hi : i < n) (ho : ops[i]? = some o) (hall : ∀ e ∈ o.after, Region.binds .any e = true → listed.getD e.on false = true)
    {esF es : List Ent} {vs : Nat → Value} {W : World} (J : RJ ops C n esF listed vs W) (hs : ∀ e ∈ es, e ∈ esF) : OpF ops es o vs W := by
  have key : ∀ t, t ∈ o.looksAt ops → tmpF es vs W (.tmp t) := fun t ht => by
    unfold tmpF
    simp only
    split
    · rename_i e he
      obtain ⟨h1, h2⟩ := entOf_mem he
      subst h2
      exact J.phi e (hs e h1) (doneD_of R hi ho hall ht)
    · trivial
  refine ⟨allOf_of fun x hx => ?_, ?_⟩
  · cases x with
    | tmp t =>
      refine key t ?_
      unfold Oper.looksAt
      exact List.mem_append.2 (.inl (List.mem_filterMap.2 ⟨.tmp t, hx, rfl⟩))
    | _ => trivial
  · unfold guardF
    split
    · rename_i g b hg
      split
      · rename_i t ht
        refine key t ?_
        unfold Oper.looksAt
        refine List.mem_append.2 (.inr ?_)
        simp [hg, ht]
      · trivial
    · trivial
theorem allF_of {vs : Nat → Value} {W : World} : ∀ {es : List Ent}, (∀ e ∈ es, e.phi (vs e.d) W) → AllF vs W es
  | [], _ => trivial
  | e :: es, h => ⟨h e (by simp), allF_of fun f hf => h f (List.mem_cons_of_mem _ hf)⟩
theorem apart_of {vs : Nat → Value} : ∀ {es : List Ent}, es.Pairwise (fun e f => e.d ≠ f.d) → (∀ e ∈ es, ∀ f ∈ es, e.d ≠ f.d → ∀ k ∈ e.key (vs e.d), k ∉ f.key (vs f.d)) → Apart vs es
  | [], _, _ => trivial
  | e :: es, hp, h => ⟨fun f hf => h e (by simp) f (List.mem_cons_of_mem _ hf) ((List.pairwise_cons.1 hp).1 f hf), apart_of (List.pairwise_cons.1 hp).2 fun a ha b hb => h a (List.mem_cons_of_mem _ ha) b (List.mem_cons_of_mem _ hb)⟩
theorem RJ.next {ops : Array Oper} {C : World → Prop} {n : Nat} {esF : List Ent} {listed : Array Bool} {vs : Nat → Value} {W W' : World} {ds : List Nat} (R : RelyOk ops n ds) (hp : esF.Pairwise (fun e f => e.d ≠ f.d)) (hst : ∀ e ∈ esF, Stab e.phi)
    (J : RJ ops C n esF listed vs W) {i : Nat} {o : Oper} (hi : i < n) (ho : ops[i]? = some o) {phi : Phi} {key : Value → List Nat} (hm : ∀ d, o.dst = some d → ⟨d, phi, key⟩ ∈ esF) {v : Value} (hC : C W') (hb : Below W.heap.size W W') (hv : phi v W') (hk : ∀ k ∈ key v, W.heap.size ≤ k ∧ k < W'.heap.size) :
    RJ ops C n esF (listed.setIfInBounds i true) (match o.dst with | some d => updV vs d v | none => vs) W' := by
  -- what was done is done still; what is done now and was not is the operation's own
  have back : ∀ e ∈ esF, DoneD ops n (listed.setIfInBounds i true) e.d → (o.dst = some e.d ∧ e.phi = phi ∧ e.key = key) ∨ (o.dst ≠ some e.d ∧ DoneD ops n listed e.d) := fun e he hd => by
    by_cases h : o.dst = some e.d
    · have := uniq_of hp e he _ (hm e.d h) rfl
      exact .inl ⟨h, by rw [this], by rw [this]⟩
    · refine .inr ⟨h, fun j o' hj ho' hd' => ?_⟩
      have h1 := hd j o' hj ho' hd'
      by_cases hij : i = j
      · subst hij; rw [ho] at ho'; cases ho'; exact absurd hd' h
      · rwa [getD_set_ne false hij] at h1
  have val : ∀ e, o.dst = some e → (match o.dst with | some d => updV vs d v | none => vs) e = v := fun e h => by rw [h]; simp [updV]
  have oth : ∀ e, o.dst ≠ some e → (match o.dst with | some d => updV vs d v | none => vs) e = vs e := fun e h => by
    cases hd : o.dst with
    | none => rfl
    | some d => have : e ≠ d := fun e1 => h (by rw [hd, e1]); simp [updV, this]
  refine ⟨hC, fun e he hd => ?_, fun e he hd k hk' => ?_, fun e he f hf hde hdf hne k hke hkf => ?_⟩
  · rcases back e he hd with ⟨h1, h2, _⟩ | ⟨h1, h2⟩
    · rw [val _ h1, h2]; exact hv
    · rw [oth _ h1]; exact hst e he _ _ _ (J.phi e he h2) hb
  · rcases back e he hd with ⟨h1, _, h3⟩ | ⟨h1, h2⟩
    · rw [val _ h1, h3] at hk'; exact (hk k hk').2
    · rw [oth _ h1] at hk'; exact Nat.lt_of_lt_of_le (J.lt e he h2 k hk') hb.size
  · rcases back e he hde with ⟨a1, _, a3⟩ | ⟨a1, a2⟩ <;> rcases back f hf hdf with ⟨b1, _, b3⟩ | ⟨b1, b2⟩
    · rw [a1] at b1; exact hne (Option.some.inj b1)
    · rw [val _ a1, a3] at hke; rw [oth _ b1] at hkf
      have := J.lt f hf b2 k hkf
      have := (hk k hke).1
      omega
    · rw [val _ b1, b3] at hkf; rw [oth _ a1] at hke
      have := J.lt e he a2 k hke
      have := (hk k hkf).1
      omega
    · rw [oth _ a1] at hke; rw [oth _ b1] at hkf
      exact J.ap e he f hf a2 b2 hne k hke hkf
theorem rely_run {P : Program} {ops : Array Oper} {C : World → Prop} {Q : Exit → Act → World → Prop} {a0 : Act} {n : Nat} {ds : List Nat} {esF : List Ent} (R : RelyOk ops n ds)
    (F : Flat P ops C Q (fun vs => putAll a0 vs ds) (ops.toList.drop n) (ops.toList.take n) [] esF) : ∀ (c : Nat) (listed : Array Bool) (vs : Nat → Value) (W : World), HeadInv .any ops n listed → left n listed = c → RJ ops C n esF listed vs W →
    wpAny P .any ops Q (c + (ops.size - n)) listed (putAll a0 vs ds) W
  | 0, listed, vs, W, inv, hc, J => by
    have hall := left_zero hc
    have he : listed = (Array.replicate n true) ++ Array.replicate (ops.size - n) false := by
      have hs := inv.size
      apply Array.ext
      · simp [hs]; have := R.le; omega
      · intro j h1 h2
        rw [Array.getElem_append]
        split
        · rename_i h
          have h := hall j (by simpa using h)
          simp only [Array.getElem_replicate]
          simpa [h1] using h
        · rename_i h
          have h := inv.tail j (by simpa using h) (by omega)
          simp only [Array.getElem_replicate]
          simpa [h1] using h
    have hd : ∀ e ∈ esF, DoneD ops n listed e.d := fun e _ j o hj _ _ => hall j hj
    have hw := F.fin vs W J.c (allF_of fun e he => J.phi e he (hd e he)) (apart_of F.pair fun e he f hf hne => J.ap e he f hf (hd e he) (hd f hf) hne)
    have hl : (ops.toList.drop n).length = ops.size - n := by simp
    rw [Nat.zero_add, ← hl]
    exact wpAny_of_seq (ops.toList.drop n) n listed _ W (fun j => by simp) (by rw [hl, he]; exact R.seq) hw
  | c + 1, listed, vs, W, inv, hc, J => by
    obtain ⟨i0, hi0, hl0⟩ := left_succ hc
    have hout : ∀ t, n ≤ t → t ∉ Region.ready .any ops listed := fun t ht => by
      rcases R.tail with h | ⟨h1, h2⟩
      · intro hr
        obtain ⟨_, o, ho, _⟩ := mem_ready.1 hr
        have := (Array.getElem?_eq_some_iff.1 ho).1
        omega
      · by_cases hn : n < ops.size
        · exact tail_waits h1 h2 hn inv _ i0 rfl hi0 (getD_in (by rw [inv.size]; have := R.le; omega) hl0) t ht
        · intro hr
          obtain ⟨_, o, ho, _⟩ := mem_ready.1 hr
          have := (Array.getElem?_eq_some_iff.1 ho).1
          omega
    have hne : Region.ready .any ops listed ≠ [] := by
      -- the first one that is not done may come up
      have : ∀ m i, i ≤ m → i < n → listed.getD i false = false → ∃ j, j ∈ Region.ready .any ops listed := by
        intro m
        induction m with
        | zero =>
          intro i him hi hl
          have hz : i = 0 := by omega
          subst hz
          have hsz : 0 < ops.size := by have := R.le; omega
          refine ⟨0, mem_ready.2 ⟨getD_in (by rw [inv.size]; omega) hl, ops[0], by simp [hsz], fun e he hb => ?_⟩⟩
          have := R.up 0 ops[0] hi (by simp [hsz]) e he hb
          omega
        | succ m ih =>
          intro i him hi hl
          have hsz : i < ops.size := by have := R.le; omega
          by_cases hall : ∀ e ∈ (ops[i]).after, Region.binds .any e = true → listed.getD e.on false = true
          · exact ⟨i, mem_ready.2 ⟨getD_in (by rw [inv.size]; omega) hl, ops[i], by simp [hsz], hall⟩⟩
          · simp only [Classical.not_forall] at hall
            obtain ⟨e, he, hb, hf⟩ := hall
            have hlt := R.up i ops[i] hi (by simp [hsz]) e he hb
            exact ih e.on (by omega) (by omega) (by simpa using hf)
      obtain ⟨j, hj⟩ := this i0 i0 (Nat.le_refl _) hi0 hl0
      intro e
      rw [e] at hj
      cases hj
    rw [show c + 1 + (ops.size - n) = (c + (ops.size - n)) + 1 by omega]
    refine ⟨fun h => absurd h hne, fun i hr => ?_⟩
    have hi : i < n := by
      rcases Nat.lt_or_ge i n with h | h
      · exact h
      · exact absurd hr (hout i h)
    obtain ⟨hun, o, ho, hall⟩ := mem_ready.1 hr
    have hsz : i < ops.size := (Array.getElem?_eq_some_iff.1 ho).1
    have hlist : (ops.toList.take n)[i]? = some o := by
      rw [List.getElem?_take_of_lt hi]
      simpa using ho
    obtain ⟨phi, key, es', hs', hstep, hm⟩ := F.step i o hlist
    have hst : ∀ e ∈ esF, Stab e.phi := fun e he => by
      rcases F.from_ e he with h | h
      · cases h
      · exact h.1
    have hO := opF_of R hi ho hall J hs'
    have h1 := hstep vs W J.c hO
    have hcnt := left_set hi (getD_both hun) (by rw [inv.size]; exact hsz)
    have go : ∀ v W', (C W' ∧ Below W.heap.size W W' ∧ phi v W' ∧ ∀ k ∈ key v, W.heap.size ≤ k ∧ k < W'.heap.size) → wpAny P .any ops Q (c + (ops.size - n)) (listed.setIfInBounds i true) ((putAll a0 vs ds).put o.dst v) W' := fun v W' ⟨g1, g2, g3, g4⟩ => by
      have J' := J.next R F.pair hst hi ho hm g1 g2 g3 g4
      have h2 := rely_run R F c (listed.setIfInBounds i true) _ W' (inv.set hr hi) (by omega) J'
      cases hd : o.dst with
      | none => rw [hd] at h2; exact h2
      | some d =>
        rw [hd] at h2
        rw [putAll_put vs ds a0 d v (R.mem i o d hi ho hd)]
        exact h2
    unfold wpOp
    simp only [ho]
    split
    · rename_i hw
      rw [if_pos hw] at h1
      exact .inl (wp_of_gives h1 fun v w' h => go v w' h)
    · rename_i hw
      rw [if_neg hw] at h1
      exact go undef W ⟨J.c, Below.refl _ _, h1.1, fun k hk => by rw [h1.2] at hk; cases hk⟩
/-- A region that draws its order: each of its first n operations alone, then the rest one after the other. -/
theorem wp_region_rely {P : Program} {id : Nat} {Q : Exit → Act → World → Prop} {a0 : Act} {w : World} {l : List Oper} {C : World → Prop} {A : (Nat → Value) → Act} (n : Nat) (ds : List Nat) (hm : P.follows .mixedOrders = true) (hB : relyB l.toArray n ds = true) (hA : ∀ vs, putAll a0 vs ds = A vs)
    (hC : C { w with drawn := w.drawn + 1 }) (h : Rely P l.toArray C Q A (l.drop n) (l.take n) []) : (Code.region id l.toArray true).wp P Q a0 w := by
  have ha := putAll_same a0 ds
  have R := relyOk hB
  have hAe : A = fun vs => putAll a0 vs ds := funext fun vs => (hA vs).symm
  subst hAe
  obtain ⟨esF, F⟩ := rely_flat (l.take n) [] (fun i j o o' d a b c e => by
    have hi : i < n := by have := (List.getElem?_eq_some_iff.1 a).1; simp at this; omega
    have hj : j < n := by have := (List.getElem?_eq_some_iff.1 b).1; simp at this; omega
    rw [List.getElem?_take_of_lt hi] at a
    rw [List.getElem?_take_of_lt hj] at b
    exact R.one i j o o' d hi hj (by simpa using a) (by simpa using b) c e) (fun e he => by cases he) .nil h
  refine wp_region_any hm ?_
  have inv0 : HeadInv .any l.toArray n (Array.replicate l.toArray.size false) :=
    ⟨by simp, fun j oj _ hl => (by rw [getD_replicate_false] at hl; cases hl), fun t _ ht => getD_in (by simpa using ht) (getD_replicate_false _ _)⟩
  have hl : left n (Array.replicate l.toArray.size false) = n := by
    unfold left
    rw [List.filter_eq_self.2 (fun i _ => by rw [getD_replicate_false]; rfl)]
    simp
  have key := rely_run (C := C) R (by simpa using F) n (Array.replicate l.toArray.size false) (fun t => a0.tmps.getD t undef) { w with drawn := w.drawn + 1 } inv0 hl
    ⟨hC, fun e he hd => ?_, fun e he hd => ?_, fun e he f hf hd => ?_⟩
  · rw [ha] at key
    have hs : n + (l.toArray.size - n) = l.toArray.size := by have := R.le; omega
    rw [hs] at key
    exact key
  all_goals
    exfalso
    rcases F.from_ e he with h | ⟨_, k, o, hk, hd'⟩
    · cases h
    · have hkn : k < n := by have := (List.getElem?_eq_some_iff.1 hk).1; simp at this; omega
      rw [List.getElem?_take_of_lt hkn] at hk
      have := hd k o hkn (by simpa using hk) hd'
      rw [getD_replicate_false] at this
      cases this

/-! ### new blocks -/
def ptrKey : Value → List Nat
  | .pointer (some a) => [a.block]
  | .slice (some a) _ _ => [a.block]
  | _ => []
/-- A new block, known whole, that nothing else of L lies in. -/
def NewBlk (w : World) (L : List Res) (mk : Nat → Value) (cs : Array Value) (t : TypeId) (v : Value) (W : World) : Prop := ∃ g, v = mk g ∧ W.heap[g]? = some (.cells cs t (0, 0)) ∧ w.heap.size ≤ g ∧ ∀ r ∈ L, g ∉ r.keys ∧ g ∉ r.reads
theorem rely_new {P : Program} {ops : Array Oper} {w : World} {S : List Nat} {L : List Res} {Q : Exit → Act → World → Prop} {A : (Nat → Value) → Act} {tail l : List Oper} {es : List Ent} {o : Oper} {d : Nat} (mk : Nat → Value) (hmk : ∀ g, ptrKey (mk g) = [g]) {cs : Array Value} {t : TypeId} (hd : o.dst = some d) (hg : o.guard = none)
    (h1 : ∀ vs W, Sep w S L W → OpF ops es o vs W → gives P o (A vs) W (fun v W' => v = mk W.heap.size ∧ W' = W.alloc (.cells cs t)))
    (h2 : Rely P ops (Sep w S L) Q A tail l (⟨d, NewBlk w L mk cs t, ptrKey⟩ :: es)) : Rely P ops (Sep w S L) Q A tail (o :: l) es := by
  refine ⟨NewBlk w L mk cs t, ptrKey, fun v W W' h hb => ?_, fun vs W hC hO => ?_, by rw [hd]; exact h2⟩
  · obtain ⟨g, e, hh, hge, hl⟩ := h
    exact ⟨g, e, (hb.block g (Array.getElem?_eq_some_iff.1 hh).1).trans hh, hge, hl⟩
  · have h := h1 vs W hC hO
    rw [if_pos (by simp [Region.wanted, hg])]
    have key : ∀ v W', v = mk W.heap.size → W' = W.alloc (.cells cs t) → Sep w S L W' ∧ Below W.heap.size W W' ∧ NewBlk w L mk cs t v W' ∧ ∀ k ∈ ptrKey v, W.heap.size ≤ k ∧ k < W'.heap.size := fun v W' e1 e2 => by
      subst e1 e2
      refine ⟨hC.junk _, (Below.refl _ _).alloc (Nat.le_refl _) _, ⟨W.heap.size, rfl, heap_alloc_new W _, hC.low.size, fun r hr => ⟨fun hk => ?_, fun hk => ?_⟩⟩, fun k hk => ?_⟩
      · have := Res.lt (hC.all r hr).1 _ hk; omega
      · have := Res.ltR (hC.all r hr).1 _ hk; omega
      · rw [hmk] at hk
        obtain rfl : k = W.heap.size := by simpa using hk
        simp
    unfold gives at *
    generalize (execOp (A vs).eval o).run P W = r at *
    cases r with
    | ok n w' =>
      cases n <;> simp only [givesUpon] at h ⊢
      case value v => exact key v w' h.1 h.2
      case skip => exact key undef w' h.1 h.2
      case enter f args => exact h.mono fun e w'' ⟨v, he, g1, g2⟩ => ⟨v, he, key v w'' g1 g2⟩
    | halt x w' => simp only [givesUpon] at h
theorem Sep.newBlk {w : World} {S : List Nat} {L : List Res} {W : World} {cs : Array Value} {t : TypeId} {g : Nat} (h : Sep w S L W) (hh : W.heap[g]? = some (.cells cs t (0, 0))) (hge : w.heap.size ≤ g) (hl : ∀ r ∈ L, g ∉ r.keys ∧ g ∉ r.reads) : Sep w S (.blk g t cs :: L) W :=
  h.grow hh (fun k hk => by
    obtain rfl : k = g := by simpa [Res.keys] using hk
    exact .inr hge) (fun s hs => ⟨fun k hk => by
      obtain rfl : k = g := by simpa [Res.keys] using hk
      exact hl s hs, fun k hk hkr => by simp [Res.reads] at hkr⟩)
end Go.Proofs.Ytbfhgcnfhjhgcaa
namespace Go.Proofs.Ytbfhgcnfhjhgcaa
open Go.RowKit
set_option linter.unusedVariables false
set_option linter.unusedSimpArgs false

/-- A slice type t of elements e, each of so many cells and bytes. -/
def ElemOk (P : Program) (t e size bytes : Nat) : Prop := P.underlying t = some (.slice e) ∧ ∃ i z, P.info? e = some i ∧ i.zero = some z ∧ i.size = size ∧ i.bytes = bytes ∧ z.cells.size = size ∧ 0 < size
/-- What a slice reads as, cell by cell. -/
def SrcAt (W : World) (size : Nat) (a : Option Addr) (m c : Nat) (us : List Value) : Prop :=
  us.length = m * size ∧ (∀ u ∈ us, u.oneCell' = true) ∧ ((a = none ∧ m = 0) ∨ ∃ ad, a = some ad ∧ ∀ (j : Nat) (u : Value), us[j]? = some u → W.cell? (ad.add j) = some u)
theorem run_append_none {P : Program} {w : World} (base : Nat) (t ty e : TypeId) (i : TypeInfo) (size : Nat) (ht : P.underlying t = some (.slice e)) (hi : P.info? e = some i) (v : Value) (n c : Nat) (xs : List Value) (hown : w.ownsRow base e size v n xs) :
    (Builtin.append_ #[t, t] ty #[v, .slice none 0 c]).run P w = .ok v w := by
  rcases hown.2 with ⟨rfl, rfl⟩ | ⟨g, cap, cur, rfl, _, _, hnc, _⟩
  · simp [Builtin.append_, run_underlying ht, sizeOf, typeInfo, hi, Builtin.lenOf, Builtin.firstCells]
  · simp [Builtin.append_, run_underlying ht, sizeOf, typeInfo, hi, Builtin.lenOf, Builtin.firstCells, hnc, storeCells]
theorem mods_of_grown {W W' : World} {r : Option Nat} (h : W.grownBy W' r) : Mods r.toList W W' :=
  ⟨h.os, h.tape, h.output, h.size, fun k hk hn => h.block k hk (fun e => hn (by rw [← e]; simp))⟩
theorem rowOf {W : World} {e size n : Nat} {v : Value} {xs : List Value} (h : W.ownsRow 0 e size v n xs) : ∃ a c, v = .slice a n c := by
  rcases h.2 with ⟨rfl, rfl⟩ | ⟨g, cap, cur, rfl, _⟩
  · exact ⟨none, 0, rfl⟩
  · exact ⟨_, cap, rfl⟩
theorem ownsRow_zero {W : World} {base e size n : Nat} {v : Value} {xs : List Value} (h : W.ownsRow base e size v n xs) : W.ownsRow 0 e size v n xs := by
  refine ⟨h.1, ?_⟩
  rcases h.2 with h | ⟨g, cap, cur, e, hg, r⟩
  · exact .inl h
  · exact .inr ⟨g, cap, cur, e, Nat.zero_le _, r⟩
theorem Sep.run_append {P : Program} {w : World} {S : List Nat} {L : List Res} {W : World} (hS : Sep w S L W) {t e size bytes : Nat} (ty : TypeId) (hT : ElemOk P t e size bytes)
    {a : Option Addr} {n cap : Nat} {xs : List Value} {L' : Option Addr → Nat → List Res} {ao : Option Addr} {m c : Nat} {news : List Value} (u : ∀ a' c', Upd L (.row (.slice a n cap) e size n xs) (.row (.slice a' (n + m) c') e size (n + m) (xs ++ news)) (L' a' c'))
    (hs : SrcAt W size ao m c news) (h63 : n + m ≤ maxLen) (hbytes : (n + m) * bytes ≤ 140737488355328) :
    ∃ a' c' W', (Builtin.append_ #[t, t] ty #[.slice a n cap, .slice ao m c]).run P W = .ok (.slice a' (n + m) c') W' ∧ Sep w S (L' a' c') W' := by
  obtain ⟨ht, i, z, hi, hz, hsize, hby, hzs, hsz⟩ := hT
  have hmem := (u none 0).mem
  have hown : W.ownsRow 0 e size (.slice a n cap) n xs := (hS.all _ hmem).1
  have key : ∀ v' W', W'.ownsRow 0 e size v' (n + m) (xs ++ news) → Mods (Res.row (.slice a n cap) e size n xs).keys W W' → (∀ k, v'.ownBlock = some k → (Value.slice a n cap).ownBlock = some k ∨ W.heap.size ≤ k) → ∃ a' c', v' = .slice a' (n + m) c' ∧ Sep w S (L' a' c') W' := fun v' W' h1 h2 h3 => by
    obtain ⟨a', c', rfl⟩ := rowOf h1
    refine ⟨a', c', rfl, hS.upd (u a' c') h2 h1 (fun k hk => ?_) rfl⟩
    have : (Value.slice a' (n + m) c').ownBlock = some k := by simpa [Res.keys] using hk
    rcases h3 k this with h | h
    · exact .inl (by simp [Res.keys, h])
    · exact .inr h
  obtain ⟨hl, h1c, hsrc⟩ := hs
  rcases hsrc with ⟨rfl, rfl⟩ | ⟨ad, rfl, hc⟩
  · have hn : news = [] := List.eq_nil_of_length_eq_zero (by simpa using hl)
    subst hn
    have hrun := run_append_none (P := P) (w := W) 0 t ty e i size ht hi (.slice a n cap) n c xs hown
    obtain ⟨a', c', e1, h⟩ := key (.slice a n cap) W (by simpa using hown) (Mods.refl _ _) (fun k hk => .inl hk)
    refine ⟨a', c', W, ?_, h⟩
    rw [hrun, ← e1]
  · rcases hown.2 with ⟨e1, rfl⟩ | ⟨g, cap', cur, e1, hg, hh, r1, r2, r3, r4⟩
    · -- a nil slice
      cases e1
      have hnil : W.ownsRow W.heap.size e size (.slice none 0 0) 0 xs := ⟨hown.1, .inl ⟨rfl, rfl⟩⟩
      obtain ⟨v', W', hr, h2, h3, _⟩ := run_append_own (P := P) W W.heap.size t ty e i z size bytes ht hi hz hsize hby hzs hsz _ 0 xs hnil ad m c news hl hc h1c h63 hbytes (Nat.le_refl _)
      obtain ⟨a', c', rfl, h⟩ := key v' W' (ownsRow_zero h2) (mods_of_grown h3) (fun k hk => .inr (World.ownsRow.lt h2 k hk).1)
      exact ⟨a', c', W', hr, h⟩
    · cases e1
      by_cases hr : n + m ≤ cap
      · obtain ⟨W', hrun, h2, h3⟩ := run_append_fits (P := P) (w := W) 0 t ty e i size ht hi hsize g n cap xs hown ad m c news hl hc h1c hr
        obtain ⟨a', c', e2, h⟩ := key _ W' h2 (mods_of_grown h3) (fun k hk => .inl hk)
        exact ⟨a', c', W', by rw [hrun, e2], h⟩
      · have hlen : xs.length = n * size := hown.1
        obtain ⟨v', W', hrun, h2, h3⟩ := run_append_arg_grows (P := P) W t ty e i z size bytes ht hi hz hsize hby hzs hsz ⟨g, 0, none⟩ n cap xs hlen (fun j u hj => by
          rw [Addr.add_lit, Nat.zero_add, blk_cell hh]
          rw [← r4, List.getElem?_take] at hj
          split at hj
          · simpa using hj
          · cases hj) ad m c news hl hc (by omega) h63 hbytes
        obtain ⟨a', c', rfl, h⟩ := key v' W' (ownsRow_zero h2) ((mods_of_grown h3).trans (Mods.refl [] _) (fun k hk => by cases hk) |> fun q => ⟨q.os, q.tape, q.output, q.size, fun k hk _ => q.block k hk (by simp)⟩) (fun k hk => .inr (World.ownsRow.lt h2 k hk).1)
        exact ⟨a', c', W', hrun, h⟩
/-- At the walk. -/
theorem sl_append {P : Program} {w : World} {S : List Nat} {L : List Res} {W : World} (hS : Sep w S L W) {ops : Array Oper} {rest : List Oper} {d : Option Tmp} {ty : TypeId} {ps : String} {af : Array Edge} {ac : Act} {Q : Exit → Act → World → Prop} {s x : Operand} {t e size bytes : Nat} (hT : ElemOk P t e size bytes)
    {a : Option Addr} {n cap : Nat} {xs : List Value} {L' : Option Addr → Nat → List Res} {ao : Option Addr} {m c : Nat} {news : List Value} (hs : ac.eval s = .slice a n cap) (hx : ac.eval x = .slice ao m c)
    (u : ∀ a' c', Upd L (.row (.slice a n cap) e size n xs) (.row (.slice a' (n + m) c') e size (n + m) (xs ++ news)) (L' a' c'))
    (hsrc : SrcAt W size ao m c news) (h63 : n + m ≤ maxLen) (hbytes : (n + m) * bytes ≤ 140737488355328)
    (h : ∀ a' c' W', Sep w S (L' a' c') W' → wpList P ops Q rest (ac.put d (.slice a' (n + m) c')) W') : wpList P ops Q ({ dst := d, op := .call { callee := .builtin .append, args := #[s, x], argTypes := #[t, t] }, type := ty, pos := ps, after := af, guard := none } :: rest) ac W := by
  refine wpList_plain rfl fun K hK => ?_
  obtain ⟨a', c', W', hr, hS'⟩ := hS.run_append ty hT u hsrc h63 hbytes
  unfold Oper.wp
  simp [execOp, resolve, invoke, builtin, hs, hx, hr, Result.andThen]
  exact hK _ _ (h a' c' W' hS')
/-- Of one element or more: it has an address. -/
theorem sl_append1 {P : Program} {w : World} {S : List Nat} {L : List Res} {W : World} (hS : Sep w S L W) {ops : Array Oper} {rest : List Oper} {d : Option Tmp} {ty : TypeId} {ps : String} {af : Array Edge} {ac : Act} {Q : Exit → Act → World → Prop} {s x : Operand} {t e size bytes : Nat} (hT : ElemOk P t e size bytes)
    {a : Option Addr} {n cap : Nat} {xs : List Value} {L' : Option Addr → Nat → List Res} {ao : Option Addr} {m c : Nat} {news : List Value} (hs : ac.eval s = .slice a n cap) (hx : ac.eval x = .slice ao m c)
    (u : ∀ a' c', Upd L (.row (.slice a n cap) e size n xs) (.row (.slice a' (n + m) c') e size (n + m) (xs ++ news)) (L' a' c'))
    (hsrc : SrcAt W size ao m c news) (h63 : n + m ≤ maxLen) (hbytes : (n + m) * bytes ≤ 140737488355328) (hpos : 0 < n + m)
    (h : ∀ g c' W', Sep w S (L' (some ⟨g, 0, none⟩) c') W' → wpList P ops Q rest (ac.put d (.slice (some ⟨g, 0, none⟩) (n + m) c')) W') : wpList P ops Q ({ dst := d, op := .call { callee := .builtin .append, args := #[s, x], argTypes := #[t, t] }, type := ty, pos := ps, after := af, guard := none } :: rest) ac W := by
  refine sl_append hS hT hs hx u hsrc h63 hbytes fun a' c' W' hS' => ?_
  have hown : W'.ownsRow 0 e size (.slice a' (n + m) c') (n + m) (xs ++ news) := (hS'.all _ (u a' c').mem2).1
  rcases hown.2 with ⟨e1, e2⟩ | ⟨g, cap', cur, e1, _⟩
  · omega
  · cases e1
    exact h g c' W' hS'
/-- A new block of no cells, and any block known whole, is a row. -/
theorem Sep.toRow {w : World} {S : List Nat} {L L' : List Res} {W : World} {b t size n : Nat} {cs : Array Value} (h : Sep w S L W) (hn : cs.size = n * size) (hm : n ≤ maxLen) (u : Upd L (.blk b t cs) (.row (.slice (some ⟨b, 0, none⟩) n n) t size n cs.toList) L') : Sep w S L' W := by
  refine h.upd u (Mods.refl _ _) ⟨by simpa using hn, .inr ⟨b, n, cs, rfl, Nat.zero_le _, (h.all _ u.mem).1, Nat.le_refl _, hm, hn, ?_⟩⟩ (fun k hk => .inl ?_) rfl
  · rw [← hn, ← Array.length_toList, List.take_length]
  · have : (Value.slice (some ⟨b, 0, none⟩) n n).ownBlock = some k := by simpa [Res.keys] using hk
    have h2 : b = k := by simpa [Value.ownBlock] using this
    simp [Res.keys, h2]
/-- A nil slice is a row of nothing. -/
theorem Sep.nilRow {w : World} {S : List Nat} {L : List Res} {W : World} (h : Sep w S L W) (t size : Nat) : Sep w S (.row (.slice none 0 0) t size 0 [] :: L) W :=
  h.grow ⟨by simp, .inl ⟨rfl, rfl⟩⟩ (fun k hk => by simp [Res.keys, Value.ownBlock] at hk) (fun s hs => ⟨fun k hk => by simp [Res.keys, Value.ownBlock] at hk, fun k hk hkr => by simp [Res.reads] at hkr⟩)
/-- Numbers, as a source. -/
theorem srcInts {W : World} {k : IntKind} {a : Option Addr} {c : Nat} {xs : List Int} (h : ∀ j, j < xs.length → ∃ b off, a = some ⟨b, off, none⟩ ∧ W.cell? ⟨b, off + j, none⟩ = some (.int k (xs[j]?.getD 0))) : SrcAt W 1 a xs.length c (xs.map (Value.int k)) := by
  refine ⟨by simp, fun u hu => by obtain ⟨x, _, rfl⟩ := List.mem_map.1 hu; rfl, ?_⟩
  cases a with
  | none =>
    refine .inl ⟨rfl, ?_⟩
    rcases Nat.eq_zero_or_pos xs.length with h0 | h0
    · exact h0
    · obtain ⟨_, _, e, _⟩ := h 0 h0; cases e
  | some ad =>
    refine .inr ⟨ad, rfl, fun j u hj => ?_⟩
    have hjn : j < xs.length := by
      have := (List.getElem?_eq_some_iff.1 hj).1
      simpa using this
    obtain ⟨b, off, e, hc⟩ := h j hjn
    cases e
    rw [Addr.add_lit, hc, ← hj]
    simp [hjn]
/-- One element: the block that holds it. -/
theorem srcOne {W : World} {b t : Nat} {cs : Array Value} {size : Nat} (h : W.heap[b]? = some (.cells cs t (0, 0))) (hn : cs.size = size) (h1 : ∀ u ∈ cs.toList, u.oneCell' = true) : SrcAt W size (some ⟨b, 0, none⟩) 1 1 cs.toList := by
  refine ⟨by simpa using hn, h1, .inr ⟨_, rfl, fun j u hj => ?_⟩⟩
  rw [Addr.add_lit, Nat.zero_add, blk_cell h]
  simpa using hj
theorem Sep.src {w : World} {S : List Nat} {L : List Res} {W : World} (h : Sep w S L W) {b t : Nat} {cs : Array Value} {L' : List Res} (u : Upd L (.blk b t cs) (.blk b t cs) L') {size : Nat} (hn : cs.size = size) (h1 : ∀ u ∈ cs.toList, u.oneCell' = true) : SrcAt W size (some ⟨b, 0, none⟩) 1 1 cs.toList :=
  srcOne (h.all _ u.mem).1 hn h1
/-- A whole struct is stored. -/
theorem Sep.setRow {w : World} {S : List Nat} {L L' : List Res} {W : World} {b t : Nat} {old cs : Array Value} (h : Sep w S L W) (u : Upd L (.blk b t old) (.blk b t cs) L') : Sep w S L' (W.setRow b cs) := by
  refine h.upd u ⟨rfl, rfl, rfl, by simp, fun k hk hn => setRow_other W b k cs (fun e => hn (by simp [Res.keys, e]))⟩ (setRow_heap W b old cs t (0, 0) (h.all _ u.mem).1) (fun k hk => .inl hk) rfl
theorem sl_storeRow {P : Program} {w : World} {S : List Nat} {L L' : List Res} {W : World} (hS : Sep w S L W) {ops : Array Oper} {rest : List Oper} {d : Option Tmp} {tt : TypeId} {ps : String} {af : Array Edge} {a : Act} {Q : Exit → Act → World → Prop} {ty : TypeId} {x y : Operand}
    {g : Nat} {cells : Array Value} (hx : a.eval x = .pointer (some ⟨g, 0, none⟩)) (hy : a.eval y = .agg cells) {t : TypeId} {old : Array Value} (u : Upd L (.blk g t old) (.blk g t cells) L')
    (hi : (P.info? ty).map (·.size) = some cells.size) (hold : old.size = cells.size) (h1 : cells.all (·.oneCell') = true)
    (h : ∀ W', Sep w S L' W' → wpList P ops Q rest (a.put d undef) W') : wpList P ops Q ({ dst := d, op := .store ty x y, type := tt, pos := ps, after := af, guard := none } :: rest) a W :=
  wpList_store_row rfl ty x y rfl g cells hx hy t old (hS.all _ u.mem).1 hi hold h1 (h _ (hS.setRow u))
/-- What a row holds, as a source of numbers. -/
theorem Sep.rowInts {w : World} {S : List Nat} {L L' : List Res} {W : World} {k : IntKind} {a : Option Addr} {n c t : Nat} {xs : List Int} (h : Sep w S L W) (u : Upd L (.row (.slice a n c) t 1 n (xs.map (Value.int k))) (.row (.slice a n c) t 1 n (xs.map (Value.int k))) L') (hn : xs.length = n) :
    ∀ j, j < xs.length → ∃ b off, a = some ⟨b, off, none⟩ ∧ W.cell? ⟨b, off + j, none⟩ = some (.int k (xs[j]?.getD 0)) := by
  intro j hj
  have hown : W.ownsRow 0 t 1 (.slice a n c) n (xs.map (Value.int k)) := (h.all _ u.mem).1
  rcases hown.2 with ⟨e1, e2⟩ | ⟨g, cap', cur, e1, _, hh, _, _, _, r4⟩
  · omega
  · cases e1
    refine ⟨g, 0, rfl, ?_⟩
    rw [Nat.zero_add, blk_cell hh]
    have h2 : (cur.toList.take (n * 1))[j]? = (xs.map (Value.int k))[j]? := by rw [r4]
    rw [List.getElem?_take_of_lt (by omega)] at h2
    simp [hj] at h2 ⊢
    exact h2
theorem Sep.ge {w : World} {L L' : List Res} {W : World} {r r' : Res} (h : Sep w [] L W) (u : Upd L r r' L') : ∀ k ∈ r.keys, w.heap.size ≤ k := fun k hk => by
  rcases (h.all r u.mem).2 k hk with h1 | h1
  · cases h1
  · exact h1
theorem Sep.rowGe {w : World} {L L' : List Res} {W : World} {g n c t size m : Nat} {xs : List Value} (h : Sep w [] L W) (u : Upd L (.row (.slice (some ⟨g, 0, none⟩) n c) t size m xs) (.row (.slice (some ⟨g, 0, none⟩) n c) t size m xs) L') : w.heap.size ≤ g := h.ge u g (by simp [Res.keys, Value.ownBlock])
/-- A struct handed back out of the block that holds it. -/
theorem sl_retCell {P : Program} {fn : Func} {R : Ending → World → Prop} {w : World} {S : List Nat} {L L' : List Res} {W : World} {a : Act} {p : Tmp} {ty : TypeId} {g t : Nat} {cs : Array Value} {d : TypeDesc} (hS : Sep w S L W) (hres : fn.results = #[.cell p ty]) (hp : a.tmps.getD p undef = .pointer (some ⟨g, 0, none⟩)) (u : Upd L (.blk g t cs) (.blk g t cs) L')
    (hu : P.underlying ty = some d) (hd : (match d with | .struct _ | .array _ _ => true | _ => false) = true) (hi : (P.info? ty).map (·.size) = some cs.size) (hdf : a.defers = []) (hR : R (.returned (.agg cs)) W) : bodyPost P fn R .ret a W :=
  ⟨hdf, _, results_cell_row hres a.tmps W g t cs (0, 0) d hp (hS.all _ u.mem).1 hu hd hi, hR⟩
/-- Nothing that is owned lies where a fact is read. -/
theorem Upd.away {L L' : List Res} {r r' : Res} (u : Upd L r r' L') (h : L.Pairwise Away) (hr : r.keys = []) : ∀ s ∈ L, ∀ k ∈ s.keys, k ∉ r.reads := by
  induction u with
  | here r r' L =>
    intro s hs k hk
    rcases List.mem_cons.1 hs with rfl | hs
    · rw [hr] at hk; cases hk
    · exact ((List.pairwise_cons.1 h).1 s hs).2 k hk
  | there s0 u ih =>
    intro s hs k hk
    rcases List.mem_cons.1 hs with rfl | hs
    · exact (((List.pairwise_cons.1 h).1 _ u.mem).1 k hk).2
    · exact ih (List.pairwise_cons.1 h).2 hr s hs k hk
/-- One that is no longer wanted. -/
theorem Sep.drop1 {w : World} {S : List Nat} {L : List Res} {r : Res} {W : World} (h : Sep w S (r :: L) W) : Sep w S L W := h.sub (List.sublist_cons_self _ _)
end Go.Proofs.Ytbfhgcnfhjhgcaa
