/-
  The reference's Step: what it hands back.
  A state that is read, as a fact beside what is owned.
-/
import Derived.Test.YtbfhgcnfhjhgcaaRefProd
import Derived.Test.YtbfhgcnfhjhgcaaRefTimes
import Derived.Test.YtbfhgcnfhjhgcaaMac
import Derived.Test.YtbfhgcnfhjhgcaaGSep
namespace Go.Proofs.Ytbfhgcnfhjhgcaa
open Go.RowKit
set_option linter.unusedVariables false
set_option linter.unusedSimpArgs false

/-- A slice of so many numbers does not lie in a block. -/
def Off (b : Nat) (a : Option Addr) (n : Nat) : Prop := n = 0 ∨ blkOf a ≠ some b
def StOff (b : Nat) (q : Sl) (s : St) : Prop := Off b q.a s.store.length ∧ Off b q.b s.tape.length ∧ Off b q.c s.printed.length
/-- A state handed back, alone: its rows are those that came in, or new ones. -/
def RetS1 (w : World) (q0 : Sl) (s0 s : St) (e : Ending) (w' : World) : Prop := ∃ q : Sl, e = .returned (stVal q s) ∧ StAt w' q s ∧ Below w.heap.size w w' ∧ ∀ b, b < w.heap.size → StOff b q0 s0 → StOff b q s
theorem ints_off {W : World} {a : Option Addr} {xs : List Int} {b : Nat} (h : IntsAt W a xs) (ho : Off b a xs.length) (X : Array Value) : IntsAt (W.setRow b X) a xs := by
  rcases ho with h0 | h0
  · intro j hj; omega
  · intro j hj
    obtain ⟨b', o, rfl, hc⟩ := h j hj
    exact ⟨b', o, rfl, (World.cell?_of_block (a := ⟨b', o + j, none⟩) (setRow_other W b b' X (fun e => h0 (by rw [e]; rfl)))).trans hc⟩
theorem st_off {W : World} {q : Sl} {s : St} {b : Nat} (h : StAt W q s) (ho : StOff b q s) (X : Array Value) : StAt (W.setRow b X) q s := ⟨ints_off h.1 ho.1 X, ints_off h.2.1 ho.2.1 X, ints_off h.2.2 ho.2.2 X⟩
theorem off_new {W : World} {a : Option Addr} {xs : List Int} {b : Nat} (h : IntsAt W a xs) (hb : W.heap.size ≤ b) : Off b a xs.length := by
  by_cases h0 : xs.length = 0
  · exact .inl h0
  · right
    obtain ⟨b', o, rfl, hc⟩ := h 0 (by omega)
    have h9 := World.block_lt_of_cell? _ _ hc
    intro e
    have e' : b' = b := by simpa [blkOf] using e
    subst e'
    simp only at h9
    omega
theorem st_new {W : World} {q : Sl} {s : St} {b : Nat} (h : StAt W q s) (hb : W.heap.size ≤ b) : StOff b q s := ⟨off_new h.1 hb, off_new h.2.1 hb, off_new h.2.2 hb⟩
theorem ints_at1 {W : World} {a : Option Addr} {xs : List Int} (h : IntsAt W a xs) (h0 : 0 < xs.length) : ∃ b o, a = some ⟨b, o, none⟩ ∧ ∀ i : Int, 0 ≤ i → i < xs.length → W.cell? ⟨b, o + i.toNat, none⟩ = some (.int .i64 (getI xs i)) := by
  obtain ⟨b, o, e, hc⟩ := ints_addr' h h0
  exact ⟨b, o, e, fun i h1 h2 => hc i.toNat (by omega)⟩
end Go.Proofs.Ytbfhgcnfhjhgcaa
namespace Go.Proofs.Ytbfhgcnfhjhgcaa
open Go.RowKit
set_option linter.unusedVariables false
set_option linter.unusedSimpArgs false

def offKs (a : Option Addr) (n : Nat) : List Nat := if n = 0 then [] else (blkOf a).toList
theorem offKs_iff {b : Nat} {a : Option Addr} {n : Nat} : b ∉ offKs a n ↔ Off b a n := by
  unfold offKs Off
  by_cases h : n = 0
  · simp [h]
  · simp [h]
def stKs (q : Sl) (s : St) : List Nat := offKs q.a s.store.length ++ offKs q.b s.tape.length ++ offKs q.c s.printed.length
theorem stKs_iff {b : Nat} {q : Sl} {s : St} : b ∉ stKs q s ↔ StOff b q s := by
  unfold stKs StOff
  rw [List.mem_append, List.mem_append, ← offKs_iff, ← offKs_iff, ← offKs_iff]
  constructor
  · intro h; exact ⟨fun e => h (.inl (.inl e)), fun e => h (.inl (.inr e)), fun e => h (.inr e)⟩
  · rintro ⟨h1, h2, h3⟩ ((e | e) | e)
    · exact h1 e
    · exact h2 e
    · exact h3 e
theorem ints_ks {W W' : World} {a : Option Addr} {xs : List Int} (h : ∀ k ∈ offKs a xs.length, W'.heap[k]? = W.heap[k]?) (hx : IntsAt W a xs) : IntsAt W' a xs := by
  intro j hj
  obtain ⟨b, o, rfl, hc⟩ := hx j hj
  have := h b (by unfold offKs; rw [if_neg (by omega)]; simp [blkOf])
  exact ⟨b, o, rfl, (World.cell?_of_block (a := ⟨b, o + j, none⟩) this).trans hc⟩
theorem st_ks (q : Sl) (s : St) (W W' : World) (h : ∀ k ∈ stKs q s, W'.heap[k]? = W.heap[k]?) (hx : StAt W q s) : StAt W' q s :=
  ⟨ints_ks (fun k hk => h k (by unfold stKs; simp [hk])) hx.1, ints_ks (fun k hk => h k (by unfold stKs; simp [hk])) hx.2.1, ints_ks (fun k hk => h k (by unfold stKs; simp [hk])) hx.2.2⟩
theorem ints_lt {W : World} {a : Option Addr} {xs : List Int} (hx : IntsAt W a xs) : ∀ k ∈ offKs a xs.length, k < W.heap.size := by
  intro k hk
  unfold offKs at hk
  split at hk
  · cases hk
  · rename_i h
    obtain ⟨b, o, rfl, hc⟩ := hx 0 (by omega)
    have : k = b := by simpa [blkOf] using hk
    subst this
    exact World.block_lt_of_cell? _ _ hc
theorem st_lt {W : World} {q : Sl} {s : St} (hx : StAt W q s) : ∀ k ∈ stKs q s, k < W.heap.size := by
  intro k hk
  unfold stKs at hk
  rcases List.mem_append.1 hk with hk | hk
  · rcases List.mem_append.1 hk with hk | hk
    · exact ints_lt hx.1 k hk
    · exact ints_lt hx.2.1 k hk
  · exact ints_lt hx.2.2 k hk
/-- A state that is read. -/
def stRo (q : Sl) (s : St) : Res := .ro (stKs q s) (fun W => StAt W q s) (st_ks q s)
theorem Sep.stFact {w : World} {S : List Nat} {L L' : List Res} {W : World} {q : Sl} {s : St} (h : Sep w S L W) (u : Upd L (stRo q s) (stRo q s) L') : StAt W q s := Sep.fact (hp := st_ks q s) h u
theorem Sep.stNew {w : World} {S : List Nat} {L : List Res} {W : World} {q : Sl} {s : St} (h : Sep w S L W) (hx : StAt W q s) (hd : ∀ r ∈ L, ∀ k ∈ r.keys, StOff k q s) : Sep w S (stRo q s :: L) W :=
  h.ro _ _ _ hx (st_lt hx) (fun r hr k hk => stKs_iff.2 (hd r hr k hk))
/-- Behind a call that hands back a state. -/
theorem Sep.stCall {w : World} {S : List Nat} {L L' : List Res} {W W' : World} {q q2 : Sl} {s s2 : St} (h : Sep w S L W) (u : Upd L (stRo q s) (stRo q s) L') (hb : Below W.heap.size W W') (hx : StAt W' q2 s2) (hof : ∀ b, b < W.heap.size → StOff b q s → StOff b q2 s2) : Sep w S (stRo q2 s2 :: L) W' :=
  (h.call hb).stNew hx fun r hr k hk => hof k (Res.lt (h.all r hr).1 k hk) (stKs_iff.1 (u.away h.dis rfl r hr k hk))
theorem stRo_facts (W : World) (q : Sl) (s : St) : Res.facts W (stRo q s) = True := rfl
end Go.Proofs.Ytbfhgcnfhjhgcaa
