/-
  A range over an iterator that ranges over an iterator itself: such a one leaves marks behind, so what is between two rounds must abide turns of whatever is no cells (library: RangeFuncNested, for iterators that turn walks alone).
-/
import Derived.RangeFuncNested
import Derived.RangeFuncBound
import Derived.RangeFuncCalls
import Derived.RangeFuncLeaves
import Derived.Shelf.Abstract
import Derived.Shelf.RegionOpen
import Derived.OwnWalkIn
import Derived.TacticsInMore
import Derived.LoopNIn
import Derived.LoopIn
import Derived.Test.YtbfhgcnfhjhgcaaWaits
namespace Go.Proofs.Ytbfhgcnfhjhgcaa
open Go.RowKit Go.Shelf
set_option linter.unusedVariables false
set_option linter.unusedSimpArgs false

/-- What the iterator has laid that is no cells lies as it lay. -/
abbrev Rest (s : Nat) (A B : World) : Prop := KeepsFrom s A B
/-- An iterator's word to callers whose own facts speak of cells, and of what lay below. -/
def SeqO {α : Type} (F : Fence) (n : Nat) (P : Program) (g : Nat) (lb : Array Value) (encs : α → Array Value) (Kq : Nat → World → World → Prop) (S Sp : List α → Prop) (N : Nat) (w : World) : Prop :=
  ∀ (l : Nat) (J Jx : List α → World → Prop) (W : World), Below w.heap.size w W → w.heap.size ≤ l → l < W.heap.size → OwnFrom W.heap.size J → OwnFrom W.heap.size Jx →
    (∀ pre x V, J pre V → pre.length < N → YieldAt F (n - 1) P l (encs x) V fun e V' => (e = .returned (.bool true) ∧ J (pre ++ [x]) V' ∧ Kq l V V') ∨ (e = .returned (.bool false) ∧ Jx (pre ++ [x]) V' ∧ Rest W.heap.size V V')) →
    J [] W → CallsIn F n P g (#[.func (.yield l) #[] #[]] ++ lb) W fun e W' => (∃ v, e = .returned v) ∧ ((∃ xs, S xs ∧ J xs W') ∨ (∃ pre, Sp pre ∧ Jx pre W'))

theorem ownPostG_of_ownPostK' {α : Type} {B : Nat} {Kp : World → World → Prop} {I : List α → World → Prop} {Ix : Code → List α → World → Prop} {xs : List α} {W : World} : ∀ (e : Exit) (a : Act) (W' : World), ownPostK Kp I Ix xs W e a W' → ownPostG B Kp I Ix xs W e a W' := ownPostG_of_ownPostK
theorem OwnFrom.walks {β : Type} {B : Nat} {J : β → World → Prop} (h : OwnFrom B J) : AbidesFrom B J :=
  fun s W W' row a b c => h s W W' row a b fun r e => ⟨(c r e).1, let ⟨o, h1, h2⟩ := (c r e).2; ⟨o, h1, Obj.not_cells_of_walk h2⟩⟩
theorem SeqO.of_stops {α : Type} {F : Fence} {n : Nat} {P : Program} {g : Nat} {lb : Array Value} {encs : α → Array Value} {Kp : World → World → Prop} {S Sp : List α → Prop} {N : Nat} {w : World} (h : SeqStopsK F n P g lb encs Kp S Sp N w) : SeqO F n P g lb encs (fun _ => Kp) S Sp N w :=
  fun l J Jx W hW _ _ hJ hJx hY h0 => h l J Jx W hW (OwnFrom.walks hJ) (OwnFrom.walks hJx) (fun pre x V hv hl => (hY pre x V hv hl).mono fun e V' hr => hr.imp id (fun r => ⟨r.1, r.2.1⟩)) h0
theorem SeqO.keep {α : Type} {F : Fence} {n : Nat} {P : Program} {g : Nat} {lb : Array Value} {encs : α → Array Value} {Kp Kq : Nat → World → World → Prop} {S Sp : List α → Prop} {N : Nat} {w : World} (h : SeqO F n P g lb encs Kp S Sp N w) (hk : ∀ l A B, Kq l A B → Kp l A B) : SeqO F n P g lb encs Kq S Sp N w :=
  fun l J Jx W hW h1 h2 hJ hJx hY h0 => h l J Jx W hW h1 h2 hJ hJx (fun pre x V hv hl => (hY pre x V hv hl).mono fun e V' hr => hr.imp (fun r => ⟨r.1, r.2.1, hk _ _ _ r.2.2⟩) id) h0

/-- The two blocks of book-keeping of a loop that is no loop's round. -/
def Books (s : Nat) (r : Loop) (W : World) : Prop := W.heap[s + 1]? = some (.loop r) ∧ W.heap[s]? = some (.deferred (some []))
theorem Books.kept {s : Nat} {r : Loop} {A B : World} (h : Books s r A) (hk : KeepsFrom s A B) : Books s r B := ⟨hk.same _ _ (by omega) h.1 rfl, hk.same _ _ (Nat.le_refl _) h.2 rfl⟩
theorem Books.grown {s : Nat} {r : Loop} {A B : World} {row : Option Nat} (h : Books s r A) (hg : A.grownBy B row) (hr : ∀ k, row = some k → s + 2 ≤ k) : Books s r B :=
  ⟨(hg.block _ (Array.getElem?_eq_some_iff.1 h.1).1 (fun e => by have := hr _ e.symm; omega)).trans h.1, (hg.block _ (Array.getElem?_eq_some_iff.1 h.2).1 (fun e => by have := hr _ e.symm; omega)).trans h.2⟩
theorem Books.turn {s : Nat} {r : Loop} {A : World} (r' : Loop) (h : Books s r A) : Books s r' (A.putObj (s + 1) (.loop r')) :=
  ⟨World.putObj_heap_same (Array.getElem?_eq_some_iff.1 h.1).1, (World.putObj_heap_other (by omega)).trans h.2⟩

variable {F : Fence} {n : Nat} {P : Program}
theorem range_own {α : Type} {g : Operand} {ps : Array Tmp} {assign body : Code} {Q : Exit → Act → World → Prop} {a : Act} {w : World}
    (hro : F.round = none) (h1 : 1 ≤ n) {gf : Nat} {lb : Array Value} (hg : a.eval g = .func (.func gf) #[] lb) (hFg : F.fn gf) (eg : ∀ args w, (callFunc gf args).run P w = .ok (.enter gf args) w)
    {encs : α → Array Value} {Kp : World → World → Prop} {Kq : Nat → World → World → Prop} {S Sp : List α → Prop} {N : Nat} {w0 : World} (hseq : SeqO F (n - 1) P gf lb encs Kq S Sp N w0) (hKl : ∀ A B, Kp A B → Kq (w.heap.size + 1) A B)
    (hKt : ∀ {A B C : World}, Kp A B → Kp B C → Kp A C) (hKb : ∀ (W : World) (r : Loop) (o' : Obj), W.heap[w.heap.size + 1]? = some (.loop r) → Kp W (W.putObj (w.heap.size + 1) o')) (hb0 : Below w0.heap.size w0 w) (hps : ∀ x, (encs x).size = ps.size)
    (I : List α → World → Prop) (Ix : Code → List α → World → Prop) (hI : OwnFrom w.heap.size I) (hIx : ∀ c, OwnFrom w.heap.size (Ix c)) (h0 : I [] w) (Ax : α → Act → World → Prop) (hAx : ∀ x a', OwnFrom w.heap.size (fun (_ : Unit) W => Ax x a' W))
    (hassign : ∀ (l : Nat) (pre : List α) (x : α) (W : World) (K : Act → World → Prop), I pre W → (∀ a' W', KeepsFrom w.heap.size W W' → Kp W W' → I pre W' → Ax x a' W' → K a' W') →
      assign.wpIn (F.inRound l) (n - 1 - 1) P (Exit.then K (fun _ _ _ => False)) { tmps := (ps.zip (encs x)).foldl (fun t (p, v) => t.setIfInBounds p v) a.tmps, defers := [] } W)
    (hbody : ∀ (l : Nat) (pre : List α) (x : α) (a' : Act) (W : World), w.heap.size ≤ l → I pre W → Ax x a' W → pre.length < N → body.wpIn (F.inRound l) (n - 1 - 1) P (ownPostG w.heap.size Kp I Ix (pre ++ [x]) W) a' W)
    (hdone : ∀ (D : Nat) (xs : List α) (W : World), w.heap.size ≤ D → S xs → I xs W → W.heap[D]? = some (.deferred (some [])) → Q .normal { a with defers := { target := .collected D, args := #[] } :: a.defers } W)
    (hstop : ∀ (D : Nat) (c : Code) (pre : List α) (W : World), w.heap.size ≤ D → Sp pre → Ix c pre W → W.heap[D]? = some (.deferred (some [])) → c.wpIn F n P Q { a with defers := { target := .collected D, args := #[] } :: a.defers } W) :
    (Code.rangeFunc g ps assign body).wpIn F n P Q a w := by
  refine wpIn_rangeFunc ?_
  intro fn hfn
  rw [hro]
  let L : LoopState → Option Code → Loop := fun st pe => ⟨st, pe, fn, a.tmps, ps, assign, body, w.heap.size⟩
  let V : World := (w.alloc (.deferred (some []))).alloc (.loop (L .ready none))
  have hbooks : Books w.heap.size (L .ready none) V := by
    have e1 := World.alloc_heap_new (w.alloc (.deferred (some []))) (.loop (L .ready none))
    rw [World.size_alloc] at e1
    exact ⟨e1, (Below.heap_alloc _ _ _ (by simp)).trans (World.alloc_heap_new w _)⟩
  have hV : V.heap.size = w.heap.size + 2 := by simp [V]
  have hbelow : Below w0.heap.size w0 V := hb0.trans ((b_alloc (b_alloc (Below.refl _ w) _) _).mono hb0.size)
  have hstart : I [] V := hI.alloc _ (hI.alloc _ h0)
  refine ⟨w.heap.size + 1, [⟨.collected w.heap.size, #[]⟩], V, ⟨.fn (.func gf) lb, #[.func (.yield (w.heap.size + 1)) #[] #[]]⟩, V, gf, #[.func (.yield (w.heap.size + 1)) #[] #[]] ++ lb, V, run_enterLoop_outer _ _ _ _ _, ?_, ?_, ?_, fun _ => h1, ?_⟩
  · simp only [resolve, hg]; simp [go_sem]
  · intro f' hf'; simp [Target.leads] at hf'; subst hf'; exact hFg
  · simp [invoke, go_sem, eg]
  have wide : ∀ {A : World} {row : Option Nat}, (∀ r, row = some r → V.heap.size ≤ r ∧ ∃ o : Obj, A.heap[r]? = some o ∧ o.isCells = false) → ∀ r, row = some r → w.heap.size ≤ r ∧ ∃ o : Obj, A.heap[r]? = some o ∧ o.isCells = false :=
    fun h r e => ⟨by have := (h r e).1; omega, (h r e).2⟩
  have beyond : ∀ {A : World} {row : Option Nat}, (∀ r, row = some r → V.heap.size ≤ r ∧ ∃ o : Obj, A.heap[r]? = some o ∧ o.isCells = false) → ∀ r, row = some r → w.heap.size + 2 ≤ r := fun h r e => by have := (h r e).1; omega
  refine (hseq (w.heap.size + 1) (fun pre W => I pre W ∧ Books w.heap.size (L .ready none) W) (fun pre W => ∃ c, Ix c pre W ∧ Books w.heap.size (L .done (some c)) W) V hbelow (by have := hb0.size; omega) (by omega)
    (fun s A B row h g r => ⟨hI s A B row h.1 g (wide r), h.2.grown g (beyond r)⟩) (fun s A B row h g r => let ⟨c, h1, h2⟩ := h; ⟨c, hIx c s A B row h1 g (wide r), h2.grown g (beyond r)⟩) ?_ ⟨hstart, hbooks⟩).mono ?_
  · intro pre x W hW hlen
    obtain ⟨hi, hbk⟩ := hW
    refine ⟨fn, _, assign, body, run_yield hbk.1 (hps x), roundIn_of_wpIn hfn (hassign _ pre x W _ hi fun a' Wa k1 k2 ia xa => ?_)⟩
    have hba := hbk.kept k1
    have hlt := (Array.getElem?_eq_some_iff.1 hba.1).1
    refine ⟨_, run_beginRound hba.1 rfl, ?_⟩
    have hbb := hba.turn (L .busy none)
    have kb : Kp Wa (Wa.putObj (w.heap.size + 1) (.loop (L .busy none))) := hKb _ _ _ hba.1
    refine wpIn_mono (hbody _ pre x a' _ (by omega) (hI.putObj _ ia (by omega) hba.1 rfl) ((hAx x a').putObj (s := ()) _ xa (by omega) hba.1 rfl) hlen) ?_
    have leave : ∀ (j : Option Code) {W3 : World}, KeepsFrom w.heap.size (Wa.putObj (w.heap.size + 1) (.loop (L .busy none))) W3 → Books w.heap.size (L .busy none) W3 ∧ (Instr.endRound (w.heap.size + 1) j).run P W3 = .ok (.bool j.isNone) (W3.putObj (w.heap.size + 1) (.loop (L (if j.isNone then .ready else .done) j))) :=
      fun j W3 k3 => ⟨hbb.kept k3, run_endRound (P := P) j (hbb.kept k3).1⟩
    have out : ∀ (c : Code) {W3 : World}, KeepsFrom w.heap.size (Wa.putObj (w.heap.size + 1) (.loop (L .busy none))) W3 → Ix c (pre ++ [x]) W3 → ∃ v W4, (Instr.endRound (w.heap.size + 1) (some c)).run P W3 = .ok v W4 ∧
        ((Ending.returned v = .returned (.bool true) ∧ (I (pre ++ [x]) W4 ∧ Books w.heap.size (L .ready none) W4) ∧ Kq (w.heap.size + 1) W W4) ∨ (Ending.returned v = .returned (.bool false) ∧ (∃ c, Ix c (pre ++ [x]) W4 ∧ Books w.heap.size (L .done (some c)) W4) ∧ Rest V.heap.size W W4)) := fun c W3 k3 i3 => by
      obtain ⟨b3, r3⟩ := leave (some c) k3
      refine ⟨_, _, r3, .inr ⟨rfl, ⟨c, (hIx c).putObj _ i3 (by omega) b3.1 rfl, b3.turn _⟩, ⟨?_, fun D o hD h0 ho => ?_⟩⟩⟩
      · have e1 := k1.size
        have e2 := k3.size
        simp only [World.putObj_size] at e1 e2 ⊢
        omega
      · have e1 := k1.same D _ (by omega) h0 ho
        have e2 := (World.putObj_heap_other (w := Wa) (o := .loop (L .busy none)) (show D ≠ w.heap.size + 1 by omega)).trans e1
        exact (World.putObj_heap_other (by omega)).trans (k3.same D _ (by omega) e2 ho)
    intro e a3 W3 hp
    cases e with
    | normal =>
      obtain ⟨b3, r3⟩ := leave none hp.1
      exact ⟨_, _, r3, .inl ⟨rfl, ⟨hI.putObj _ hp.2.2 (by omega) b3.1 rfl, b3.turn _⟩, hKl _ _ (hKt k2 (hKt (hKt kb hp.2.1) (hKb _ _ _ b3.1)))⟩⟩
    | ret => exact out _ hp.1 hp.2
    | exit id => exact out _ hp.1 hp.2
    | goto t => exact out _ hp.1 hp.2
    | panic ch => exact hp.elim
    | outgrown => exact hp.elim
  · rintro e W2 ⟨⟨v, rfl⟩, (⟨xs, hS, hi, hb⟩ | ⟨pre, hSp, c, hi, hb⟩)⟩
    · exact ⟨none, _, run_endLoop (P := P) hb.1 (fun e => by cases e), hdone _ xs _ (Nat.le_refl _) hS (hI.putObj _ hi (by omega) hb.1 rfl) (hb.turn _).2⟩
    · exact ⟨some c, _, run_endLoop (P := P) hb.1 (fun e => by cases e), hstop _ c pre _ (Nat.le_refl _) hSp ((hIx c).putObj _ hi (by omega) hb.1 rfl) (hb.turn _).2⟩

/-- The same where what is assigned is known ahead of the world, and the body turns cells alone. -/
theorem range_ownF {α : Type} {g : Operand} {ps : Array Tmp} {assign body : Code} {Q : Exit → Act → World → Prop} {a : Act} {w : World}
    (hro : F.round = none) (h1 : 1 ≤ n) {gf : Nat} {lb : Array Value} (hg : a.eval g = .func (.func gf) #[] lb) (hFg : F.fn gf) (eg : ∀ args w, (callFunc gf args).run P w = .ok (.enter gf args) w)
    {encs : α → Array Value} {Kp : World → World → Prop} {Kq : Nat → World → World → Prop} {S Sp : List α → Prop} {N : Nat} {w0 : World} (hseq : SeqO F (n - 1) P gf lb encs Kq S Sp N w0) (hKl : ∀ A B, Kp A B → Kq (w.heap.size + 1) A B)
    (hKr : ∀ W, Kp W W) (hKt : ∀ {A B C : World}, Kp A B → Kp B C → Kp A C) (hKb : ∀ (W : World) (r : Loop) (o' : Obj), W.heap[w.heap.size + 1]? = some (.loop r) → Kp W (W.putObj (w.heap.size + 1) o')) (hb0 : Below w0.heap.size w0 w) (hps : ∀ x, (encs x).size = ps.size)
    (I : List α → World → Prop) (Ix : Code → List α → World → Prop) (hI : OwnFrom w.heap.size I) (hIx : ∀ c, OwnFrom w.heap.size (Ix c)) (h0 : I [] w) (a₁ : α → Act)
    (hassign : ∀ (l : Nat) (x : α) (W : World) (K : Act → World → Prop), K (a₁ x) W → assign.wpIn (F.inRound l) (n - 1 - 1) P (Exit.then K (fun _ _ _ => False)) { tmps := (ps.zip (encs x)).foldl (fun t (p, v) => t.setIfInBounds p v) a.tmps, defers := [] } W)
    (hbody : ∀ (l : Nat) (pre : List α) (x : α) (W : World), I pre W → pre.length < N → body.wpIn (F.inRound l) (n - 1 - 1) P (ownPostK Kp I Ix (pre ++ [x]) W) (a₁ x) W)
    (hdone : ∀ (D : Nat) (xs : List α) (W : World), w.heap.size ≤ D → S xs → I xs W → W.heap[D]? = some (.deferred (some [])) → Q .normal { a with defers := { target := .collected D, args := #[] } :: a.defers } W)
    (hstop : ∀ (D : Nat) (c : Code) (pre : List α) (W : World), w.heap.size ≤ D → Sp pre → Ix c pre W → W.heap[D]? = some (.deferred (some [])) → c.wpIn F n P Q { a with defers := { target := .collected D, args := #[] } :: a.defers } W) :
    (Code.rangeFunc g ps assign body).wpIn F n P Q a w :=
  range_own hro h1 hg hFg eg hseq hKl (fun h k => hKt h k) hKb hb0 hps I Ix hI hIx h0 (fun x a' _ => a' = a₁ x) (fun _ _ _ _ _ _ h _ _ => h)
    (fun l pre x W K hi hK => hassign l x W K (hK _ _ (KeepsFrom.refl _ _) (hKr W) hi rfl))
    (fun l pre x a' W _ hi e hl => by subst e; exact wpIn_mono (hbody l pre x W hi hl) ownPostG_of_ownPostK') hdone hstop

/-- The same where the code that assigns lays one block for what it assigns. -/
theorem range_box {α : Type} {g : Operand} {ps : Array Tmp} {assign body : Code} {Q : Exit → Act → World → Prop} {a : Act} {w : World}
    (upd : α → Nat → Array Value → Array Value) (obj : α → Obj) (hobj : ∀ x, (obj x).isCells = true)
    (hro : F.round = none) (h1 : 1 ≤ n) {gf : Nat} {lb : Array Value} (hg : a.eval g = .func (.func gf) #[] lb) (hFg : F.fn gf) (eg : ∀ args w, (callFunc gf args).run P w = .ok (.enter gf args) w)
    {encs : α → Array Value} {Kp : World → World → Prop} {Kq : Nat → World → World → Prop} {S Sp : List α → Prop} {N : Nat} {w0 : World} (hseq : SeqO F (n - 1) P gf lb encs Kq S Sp N w0) (hKl : ∀ A B, Kp A B → Kq (w.heap.size + 1) A B)
    (hKt : ∀ {A B C : World}, Kp A B → Kp B C → Kp A C) (hKb : ∀ (W : World) (r : Loop) (o' : Obj), W.heap[w.heap.size + 1]? = some (.loop r) → Kp W (W.putObj (w.heap.size + 1) o')) (hb0 : Below w0.heap.size w0 w) (hps : ∀ x, (encs x).size = ps.size)
    (I : List α → World → Prop) (Ix : Code → List α → World → Prop) (hI : OwnFrom w.heap.size I) (hIx : ∀ c, OwnFrom w.heap.size (Ix c)) (h0 : I [] w)
    (hassign : ∀ (l : Nat) (pre : List α) (x : α) (W : World) (K : Act → World → Prop), I pre W → (∀ B W', KeepsFrom w.heap.size W W' → Kp W W' → I pre W' → w.heap.size ≤ B → W'.heap[B]? = some (obj x) → K { tmps := upd x B a.tmps, defers := [] } W') →
      assign.wpIn (F.inRound l) (n - 1 - 1) P (Exit.then K (fun _ _ _ => False)) { tmps := (ps.zip (encs x)).foldl (fun t (p, v) => t.setIfInBounds p v) a.tmps, defers := [] } W)
    (hbody : ∀ (l : Nat) (pre : List α) (x : α) (B : Nat) (W : World), w.heap.size ≤ l → I pre W → w.heap.size ≤ B → W.heap[B]? = some (obj x) → pre.length < N →
      body.wpIn (F.inRound l) (n - 1 - 1) P (ownPostG w.heap.size Kp I Ix (pre ++ [x]) W) { tmps := upd x B a.tmps, defers := [] } W)
    (hdone : ∀ (D : Nat) (xs : List α) (W : World), w.heap.size ≤ D → S xs → I xs W → W.heap[D]? = some (.deferred (some [])) → Q .normal { a with defers := { target := .collected D, args := #[] } :: a.defers } W)
    (hstop : ∀ (D : Nat) (c : Code) (pre : List α) (W : World), w.heap.size ≤ D → Sp pre → Ix c pre W → W.heap[D]? = some (.deferred (some [])) → c.wpIn F n P Q { a with defers := { target := .collected D, args := #[] } :: a.defers } W) :
    (Code.rangeFunc g ps assign body).wpIn F n P Q a w :=
  range_own hro h1 hg hFg eg hseq hKl (fun h k => hKt h k) hKb hb0 hps I Ix hI hIx h0 (fun x a' W => ∃ B, w.heap.size ≤ B ∧ W.heap[B]? = some (obj x) ∧ a' = { tmps := upd x B a.tmps, defers := [] })
    (fun x a' s A B row h hg hr => by
      obtain ⟨b, h1, h2, h3⟩ := h
      refine ⟨b, h1, (hg.block b (Array.getElem?_eq_some_iff.1 h2).1 (fun e => ?_)).trans h2, h3⟩
      obtain ⟨_, o, ho, hc⟩ := hr b e.symm
      rw [h2] at ho; cases ho; rw [hobj] at hc; cases hc)
    (fun l pre x W K hi hK => hassign l pre x W K hi (fun B W' k1 k2 i2 hb ho => hK _ W' k1 k2 i2 ⟨B, hb, ho, rfl⟩))
    (fun l pre x a' W hl hi hA hlen => by obtain ⟨B, hb, ho, rfl⟩ := hA; exact hbody l pre x B W hl hi hb ho hlen) hdone hstop

/-- What there is lies as it lay, but for the blocks of X. -/
structure Kept (X : Nat → Prop) (A B : World) : Prop where
  size : A.heap.size ≤ B.heap.size
  all : ∀ k, k < A.heap.size → ¬ X k → B.heap[k]? = A.heap[k]?
theorem Kept.same {X : Nat → Prop} {A B : World} (h : Kept X A B) (k : Nat) (o : Obj) (hk : A.heap[k]? = some o) (_ : ∀ r, o ≠ .loop r) (hx : ¬ X k) : B.heap[k]? = some o := (h.all k (Array.getElem?_eq_some_iff.1 hk).1 hx).trans hk
theorem Kept.refl (X : Nat → Prop) (A : World) : Kept X A A := ⟨Nat.le_refl _, fun _ _ _ => rfl⟩
theorem Kept.trans {X : Nat → Prop} {A B C : World} (h : Kept X A B) (k : Kept X B C) : Kept X A C := ⟨Nat.le_trans h.size k.size, fun i hi hx => (k.all i (by have := h.size; omega) hx).trans (h.all i hi hx)⟩
theorem Kept.grown {X : Nat → Prop} {A B : World} {row : Option Nat} (hg : A.grownBy B row) (hr : ∀ k, row = some k → X k) : Kept X A B :=
  ⟨hg.size, fun i hi hx => hg.block i hi (fun e => hx (hr i e.symm))⟩
theorem Kept.mono {X Y : Nat → Prop} {A B : World} (h : Kept X A B) (hXY : ∀ k, k < A.heap.size → X k → Y k) : Kept Y A B :=
  ⟨h.size, fun i hi hy => h.all i hi (fun hx => hy (hXY i hi hx))⟩
theorem Kept.alloc (X : Nat → Prop) (A : World) (o : Obj) : Kept X A (A.alloc o) := .grown (World.grownBy_alloc A o none) (by simp)
theorem Kept.of_below {X : Nat → Prop} {A B : World} (h : Below A.heap.size A B) : Kept X A B := ⟨h.size, fun i hi _ => h.block i hi⟩
theorem Kept.set {X : Nat → Prop} (A : World) (b : Nat) (v : Value) (hx : X b) : Kept X A (A.setCell ⟨b, 0, none⟩ v) := .grown (grownBy_setCell' A b v) (fun k e => by cases e; exact hx)
theorem Kept.drew (X : Nat → Prop) (A : World) : Kept X A A.drew := ⟨Nat.le_refl _, fun _ _ _ => rfl⟩
theorem Kept.put {X : Nat → Prop} (A : World) (b : Nat) (o : Obj) (hx : X b) : Kept X A (A.putObj b o) := ⟨by simp, fun k _ hk => World.putObj_heap_other (fun e => hk (e ▸ hx))⟩
theorem Kept.from {X : Nat → Prop} {A B : World} {s : Nat} (h : Kept X A B) (hs : ∀ k, X k → k < s) : KeepsFrom s A B :=
  ⟨h.size, fun k o hk ho _ => (h.all k (Array.getElem?_eq_some_iff.1 ho).1 (fun x => by have := hs k x; omega)).trans ho⟩
theorem Kept.boxed {X : Nat → Prop} {A B : World} (h : Kept X A B) {b : Nat} {t : TypeId} {v : Value} (hx : ¬ X b) (hv : Boxed A b t v) : Boxed B b t v := (h.all b hv.lt hx).trans hv

theorem round_depth {m m' : Nat} {l : Nat} {f : FuncId} {tmps : Array Value} {assign body : Code} {w : World} {R : Ending → World → Prop} (h : RoundIn Fence.wide m P l f tmps assign body w R) : RoundIn Fence.wide m' P l f tmps assign body w R :=
  ⟨h.1, fun c cs _ => h.2 c cs (fun d e => by cases e)⟩
/-- At the wide fence no depth is asked. -/
theorem yield_depth {m : Nat} (m' : Nat) {l : Nat} {args : Array Value} {W : World} {R : Ending → World → Prop} (h : YieldAt Fence.wide m P l args W R) : YieldAt Fence.wide m' P l args W R :=
  let ⟨fn, tmps, assign, body, hy, hR⟩ := h; ⟨fn, tmps, assign, body, hy, round_depth hR⟩

/-- A call in a walk inside a fence that shuts nothing out. -/
theorem inWide {n : Nat} {P : Program} {f : FuncId} {args : Array Value} {w : World} {R : Ending → World → Prop} (h : Calls P f args w R) : CallsIn Fence.wide n P f args w R := callsIn_wide.2 h
theorem inWideRound {n : Nat} {P : Program} {f : FuncId} {args : Array Value} {w : World} {R : Ending → World → Prop} (l : Nat) (h : Calls P f args w R) : CallsIn (Fence.wide.inRound l) n P f args w R := CallsIn.inRound l (callsIn_wide.2 h)
end Go.Proofs.Ytbfhgcnfhjhgcaa
