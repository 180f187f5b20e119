/-
  A range over an iterator that ranges over an iterator itself: such a one leaves marks behind, so what is between two rounds must abide turns of whatever is no cells (library: RangeFuncNested, for iterators that turn walks alone).
  Contracts of safeTemps and its iterator, of ends, and of Safe.
-/
import Derived.RangeFuncNested
import Derived.RangeFuncBound
import Derived.RangeFuncCalls
import Derived.RangeFuncLeaves
import Derived.Shelf.Abstract
import Derived.Shelf.RegionOpen
import Derived.OwnWalkIn
import Derived.TacticsInMore
import Derived.LoopNIn
import Derived.LoopIn
import Derived.Test.YtlocdkjnefmiaaaGSmall
namespace Go.Proofs.Ytlocdkjnefmiaaa
open Go.RowKit Go.Shelf
set_option linter.unusedVariables false
set_option linter.unusedSimpArgs false

/-- What the iterator has laid that is no cells lies as it lay. -/
abbrev Rest (s : Nat) (A B : World) : Prop := KeepsFrom s A B
/-- An iterator's word to callers whose own facts speak of cells, and of what lay below. -/
def SeqO {α : Type} (F : Fence) (n : Nat) (P : Program) (g : Nat) (lb : Array Value) (encs : α → Array Value) (Kq : Nat → World → World → Prop) (S Sp : List α → Prop) (N : Nat) (w : World) : Prop :=
  ∀ (l : Nat) (J Jx : List α → World → Prop) (W : World), Below w.heap.size w W → w.heap.size ≤ l → l < W.heap.size → OwnFrom W.heap.size J → OwnFrom W.heap.size Jx →
    (∀ pre x V, J pre V → pre.length < N → YieldAt F (n - 1) P l (encs x) V fun e V' => (e = .returned (.bool true) ∧ J (pre ++ [x]) V' ∧ Kq l V V') ∨ (e = .returned (.bool false) ∧ Jx (pre ++ [x]) V' ∧ Rest W.heap.size V V')) →
    J [] W → CallsIn F n P g (#[.func (.yield l) #[] #[]] ++ lb) W fun e W' => (∃ v, e = .returned v) ∧ ((∃ xs, S xs ∧ J xs W') ∨ (∃ pre, Sp pre ∧ Jx pre W'))

theorem ownPostG_of_ownPostK' {α : Type} {B : Nat} {Kp : World → World → Prop} {I : List α → World → Prop} {Ix : Code → List α → World → Prop} {xs : List α} {W : World} : ∀ (e : Exit) (a : Act) (W' : World), ownPostK Kp I Ix xs W e a W' → ownPostG B Kp I Ix xs W e a W' := ownPostG_of_ownPostK
theorem OwnFrom.walks {β : Type} {B : Nat} {J : β → World → Prop} (h : OwnFrom B J) : AbidesFrom B J :=
  fun s W W' row a b c => h s W W' row a b fun r e => ⟨(c r e).1, let ⟨o, h1, h2⟩ := (c r e).2; ⟨o, h1, Obj.not_cells_of_walk h2⟩⟩
theorem SeqO.of_stops {α : Type} {F : Fence} {n : Nat} {P : Program} {g : Nat} {lb : Array Value} {encs : α → Array Value} {Kp : World → World → Prop} {S Sp : List α → Prop} {N : Nat} {w : World} (h : SeqStopsK F n P g lb encs Kp S Sp N w) : SeqO F n P g lb encs (fun _ => Kp) S Sp N w :=
  fun l J Jx W hW _ _ hJ hJx hY h0 => h l J Jx W hW (OwnFrom.walks hJ) (OwnFrom.walks hJx) (fun pre x V hv hl => (hY pre x V hv hl).mono fun e V' hr => hr.imp id (fun r => ⟨r.1, r.2.1⟩)) h0
theorem SeqO.keep {α : Type} {F : Fence} {n : Nat} {P : Program} {g : Nat} {lb : Array Value} {encs : α → Array Value} {Kp Kq : Nat → World → World → Prop} {S Sp : List α → Prop} {N : Nat} {w : World} (h : SeqO F n P g lb encs Kp S Sp N w) (hk : ∀ l A B, Kq l A B → Kp l A B) : SeqO F n P g lb encs Kq S Sp N w :=
  fun l J Jx W hW h1 h2 hJ hJx hY h0 => h l J Jx W hW h1 h2 hJ hJx (fun pre x V hv hl => (hY pre x V hv hl).mono fun e V' hr => hr.imp (fun r => ⟨r.1, r.2.1, hk _ _ _ r.2.2⟩) id) h0

/-- The two blocks of book-keeping of a loop that is no loop's round. -/
def Books (s : Nat) (r : Loop) (W : World) : Prop := W.heap[s + 1]? = some (.loop r) ∧ W.heap[s]? = some (.deferred (some []))
theorem Books.kept {s : Nat} {r : Loop} {A B : World} (h : Books s r A) (hk : KeepsFrom s A B) : Books s r B := ⟨hk.same _ _ (by omega) h.1 rfl, hk.same _ _ (Nat.le_refl _) h.2 rfl⟩
theorem Books.grown {s : Nat} {r : Loop} {A B : World} {row : Option Nat} (h : Books s r A) (hg : A.grownBy B row) (hr : ∀ k, row = some k → s + 2 ≤ k) : Books s r B :=
  ⟨(hg.block _ (Array.getElem?_eq_some_iff.1 h.1).1 (fun e => by have := hr _ e.symm; omega)).trans h.1, (hg.block _ (Array.getElem?_eq_some_iff.1 h.2).1 (fun e => by have := hr _ e.symm; omega)).trans h.2⟩
theorem Books.turn {s : Nat} {r : Loop} {A : World} (r' : Loop) (h : Books s r A) : Books s r' (A.putObj (s + 1) (.loop r')) :=
  ⟨World.putObj_heap_same (Array.getElem?_eq_some_iff.1 h.1).1, (World.putObj_heap_other (by omega)).trans h.2⟩

variable {F : Fence} {n : Nat} {P : Program}
theorem range_own {α : Type} {g : Operand} {ps : Array Tmp} {assign body : Code} {Q : Exit → Act → World → Prop} {a : Act} {w : World}
    (hro : F.round = none) (h1 : 1 ≤ n) {gf : Nat} {lb : Array Value} (hg : a.eval g = .func (.func gf) #[] lb) (hFg : F.fn gf) (eg : ∀ args w, (callFunc gf args).run P w = .ok (.enter gf args) w)
    {encs : α → Array Value} {Kp : World → World → Prop} {Kq : Nat → World → World → Prop} {S Sp : List α → Prop} {N : Nat} {w0 : World} (hseq : SeqO F (n - 1) P gf lb encs Kq S Sp N w0) (hKl : ∀ A B, Kp A B → Kq (w.heap.size + 1) A B)
    (hKt : ∀ {A B C : World}, Kp A B → Kp B C → Kp A C) (hKb : ∀ (W : World) (r : Loop) (o' : Obj), W.heap[w.heap.size + 1]? = some (.loop r) → Kp W (W.putObj (w.heap.size + 1) o')) (hb0 : Below w0.heap.size w0 w) (hps : ∀ x, (encs x).size = ps.size)
    (I : List α → World → Prop) (Ix : Code → List α → World → Prop) (hI : OwnFrom w.heap.size I) (hIx : ∀ c, OwnFrom w.heap.size (Ix c)) (h0 : I [] w) (Ax : α → Act → World → Prop) (hAx : ∀ x a', OwnFrom w.heap.size (fun (_ : Unit) W => Ax x a' W))
    (hassign : ∀ (l : Nat) (pre : List α) (x : α) (W : World) (K : Act → World → Prop), I pre W → (∀ a' W', KeepsFrom w.heap.size W W' → Kp W W' → I pre W' → Ax x a' W' → K a' W') →
      assign.wpIn (F.inRound l) (n - 1 - 1) P (Exit.then K (fun _ _ _ => False)) { tmps := (ps.zip (encs x)).foldl (fun t (p, v) => t.setIfInBounds p v) a.tmps, defers := [] } W)
    (hbody : ∀ (l : Nat) (pre : List α) (x : α) (a' : Act) (W : World), w.heap.size ≤ l → I pre W → Ax x a' W → pre.length < N → body.wpIn (F.inRound l) (n - 1 - 1) P (ownPostG w.heap.size Kp I Ix (pre ++ [x]) W) a' W)
    (hdone : ∀ (D : Nat) (xs : List α) (W : World), w.heap.size ≤ D → S xs → I xs W → W.heap[D]? = some (.deferred (some [])) → Q .normal { a with defers := { target := .collected D, args := #[] } :: a.defers } W)
    (hstop : ∀ (D : Nat) (c : Code) (pre : List α) (W : World), w.heap.size ≤ D → Sp pre → Ix c pre W → W.heap[D]? = some (.deferred (some [])) → c.wpIn F n P Q { a with defers := { target := .collected D, args := #[] } :: a.defers } W) :
    (Code.rangeFunc g ps assign body).wpIn F n P Q a w := by
  refine wpIn_rangeFunc ?_
  intro fn hfn
  rw [hro]
  let L : LoopState → Option Code → Loop := fun st pe => ⟨st, pe, fn, a.tmps, ps, assign, body, w.heap.size⟩
  let V : World := (w.alloc (.deferred (some []))).alloc (.loop (L .ready none))
  have hbooks : Books w.heap.size (L .ready none) V := by
    have e1 := World.alloc_heap_new (w.alloc (.deferred (some []))) (.loop (L .ready none))
    rw [World.size_alloc] at e1
    exact ⟨e1, (Below.heap_alloc _ _ _ (by simp)).trans (World.alloc_heap_new w _)⟩
  have hV : V.heap.size = w.heap.size + 2 := by simp [V]
  have hbelow : Below w0.heap.size w0 V := hb0.trans ((b_alloc (b_alloc (Below.refl _ w) _) _).mono hb0.size)
  have hstart : I [] V := hI.alloc _ (hI.alloc _ h0)
  refine ⟨w.heap.size + 1, [⟨.collected w.heap.size, #[]⟩], V, ⟨.fn (.func gf) lb, #[.func (.yield (w.heap.size + 1)) #[] #[]]⟩, V, gf, #[.func (.yield (w.heap.size + 1)) #[] #[]] ++ lb, V, run_enterLoop_outer _ _ _ _ _, ?_, ?_, ?_, fun _ => h1, ?_⟩
  · simp only [resolve, hg]; simp [go_sem]
  · intro f' hf'; simp [Target.leads] at hf'; subst hf'; exact hFg
  · simp [invoke, go_sem, eg]
  have wide : ∀ {A : World} {row : Option Nat}, (∀ r, row = some r → V.heap.size ≤ r ∧ ∃ o : Obj, A.heap[r]? = some o ∧ o.isCells = false) → ∀ r, row = some r → w.heap.size ≤ r ∧ ∃ o : Obj, A.heap[r]? = some o ∧ o.isCells = false :=
    fun h r e => ⟨by have := (h r e).1; omega, (h r e).2⟩
  have beyond : ∀ {A : World} {row : Option Nat}, (∀ r, row = some r → V.heap.size ≤ r ∧ ∃ o : Obj, A.heap[r]? = some o ∧ o.isCells = false) → ∀ r, row = some r → w.heap.size + 2 ≤ r := fun h r e => by have := (h r e).1; omega
  refine (hseq (w.heap.size + 1) (fun pre W => I pre W ∧ Books w.heap.size (L .ready none) W) (fun pre W => ∃ c, Ix c pre W ∧ Books w.heap.size (L .done (some c)) W) V hbelow (by have := hb0.size; omega) (by omega)
    (fun s A B row h g r => ⟨hI s A B row h.1 g (wide r), h.2.grown g (beyond r)⟩) (fun s A B row h g r => let ⟨c, h1, h2⟩ := h; ⟨c, hIx c s A B row h1 g (wide r), h2.grown g (beyond r)⟩) ?_ ⟨hstart, hbooks⟩).mono ?_
  · intro pre x W hW hlen
    obtain ⟨hi, hbk⟩ := hW
    refine ⟨fn, _, assign, body, run_yield hbk.1 (hps x), roundIn_of_wpIn hfn (hassign _ pre x W _ hi fun a' Wa k1 k2 ia xa => ?_)⟩
    have hba := hbk.kept k1
    have hlt := (Array.getElem?_eq_some_iff.1 hba.1).1
    refine ⟨_, run_beginRound hba.1 rfl, ?_⟩
    have hbb := hba.turn (L .busy none)
    have kb : Kp Wa (Wa.putObj (w.heap.size + 1) (.loop (L .busy none))) := hKb _ _ _ hba.1
    refine wpIn_mono (hbody _ pre x a' _ (by omega) (hI.putObj _ ia (by omega) hba.1 rfl) ((hAx x a').putObj (s := ()) _ xa (by omega) hba.1 rfl) hlen) ?_
    have leave : ∀ (j : Option Code) {W3 : World}, KeepsFrom w.heap.size (Wa.putObj (w.heap.size + 1) (.loop (L .busy none))) W3 → Books w.heap.size (L .busy none) W3 ∧ (Instr.endRound (w.heap.size + 1) j).run P W3 = .ok (.bool j.isNone) (W3.putObj (w.heap.size + 1) (.loop (L (if j.isNone then .ready else .done) j))) :=
      fun j W3 k3 => ⟨hbb.kept k3, run_endRound (P := P) j (hbb.kept k3).1⟩
    have out : ∀ (c : Code) {W3 : World}, KeepsFrom w.heap.size (Wa.putObj (w.heap.size + 1) (.loop (L .busy none))) W3 → Ix c (pre ++ [x]) W3 → ∃ v W4, (Instr.endRound (w.heap.size + 1) (some c)).run P W3 = .ok v W4 ∧
        ((Ending.returned v = .returned (.bool true) ∧ (I (pre ++ [x]) W4 ∧ Books w.heap.size (L .ready none) W4) ∧ Kq (w.heap.size + 1) W W4) ∨ (Ending.returned v = .returned (.bool false) ∧ (∃ c, Ix c (pre ++ [x]) W4 ∧ Books w.heap.size (L .done (some c)) W4) ∧ Rest V.heap.size W W4)) := fun c W3 k3 i3 => by
      obtain ⟨b3, r3⟩ := leave (some c) k3
      refine ⟨_, _, r3, .inr ⟨rfl, ⟨c, (hIx c).putObj _ i3 (by omega) b3.1 rfl, b3.turn _⟩, ⟨?_, fun D o hD h0 ho => ?_⟩⟩⟩
      · have e1 := k1.size
        have e2 := k3.size
        simp only [World.putObj_size] at e1 e2 ⊢
        omega
      · have e1 := k1.same D _ (by omega) h0 ho
        have e2 := (World.putObj_heap_other (w := Wa) (o := .loop (L .busy none)) (show D ≠ w.heap.size + 1 by omega)).trans e1
        exact (World.putObj_heap_other (by omega)).trans (k3.same D _ (by omega) e2 ho)
    intro e a3 W3 hp
    cases e with
    | normal =>
      obtain ⟨b3, r3⟩ := leave none hp.1
      exact ⟨_, _, r3, .inl ⟨rfl, ⟨hI.putObj _ hp.2.2 (by omega) b3.1 rfl, b3.turn _⟩, hKl _ _ (hKt k2 (hKt (hKt kb hp.2.1) (hKb _ _ _ b3.1)))⟩⟩
    | ret => exact out _ hp.1 hp.2
    | exit id => exact out _ hp.1 hp.2
    | goto t => exact out _ hp.1 hp.2
    | panic ch => exact hp.elim
    | outgrown => exact hp.elim
  · rintro e W2 ⟨⟨v, rfl⟩, (⟨xs, hS, hi, hb⟩ | ⟨pre, hSp, c, hi, hb⟩)⟩
    · exact ⟨none, _, run_endLoop (P := P) hb.1 (fun e => by cases e), hdone _ xs _ (Nat.le_refl _) hS (hI.putObj _ hi (by omega) hb.1 rfl) (hb.turn _).2⟩
    · exact ⟨some c, _, run_endLoop (P := P) hb.1 (fun e => by cases e), hstop _ c pre _ (Nat.le_refl _) hSp ((hIx c).putObj _ hi (by omega) hb.1 rfl) (hb.turn _).2⟩

/-- The same where what is assigned is known ahead of the world, and the body turns cells alone. -/
theorem range_ownF {α : Type} {g : Operand} {ps : Array Tmp} {assign body : Code} {Q : Exit → Act → World → Prop} {a : Act} {w : World}
    (hro : F.round = none) (h1 : 1 ≤ n) {gf : Nat} {lb : Array Value} (hg : a.eval g = .func (.func gf) #[] lb) (hFg : F.fn gf) (eg : ∀ args w, (callFunc gf args).run P w = .ok (.enter gf args) w)
    {encs : α → Array Value} {Kp : World → World → Prop} {Kq : Nat → World → World → Prop} {S Sp : List α → Prop} {N : Nat} {w0 : World} (hseq : SeqO F (n - 1) P gf lb encs Kq S Sp N w0) (hKl : ∀ A B, Kp A B → Kq (w.heap.size + 1) A B)
    (hKr : ∀ W, Kp W W) (hKt : ∀ {A B C : World}, Kp A B → Kp B C → Kp A C) (hKb : ∀ (W : World) (r : Loop) (o' : Obj), W.heap[w.heap.size + 1]? = some (.loop r) → Kp W (W.putObj (w.heap.size + 1) o')) (hb0 : Below w0.heap.size w0 w) (hps : ∀ x, (encs x).size = ps.size)
    (I : List α → World → Prop) (Ix : Code → List α → World → Prop) (hI : OwnFrom w.heap.size I) (hIx : ∀ c, OwnFrom w.heap.size (Ix c)) (h0 : I [] w) (a₁ : α → Act)
    (hassign : ∀ (l : Nat) (x : α) (W : World) (K : Act → World → Prop), K (a₁ x) W → assign.wpIn (F.inRound l) (n - 1 - 1) P (Exit.then K (fun _ _ _ => False)) { tmps := (ps.zip (encs x)).foldl (fun t (p, v) => t.setIfInBounds p v) a.tmps, defers := [] } W)
    (hbody : ∀ (l : Nat) (pre : List α) (x : α) (W : World), I pre W → pre.length < N → body.wpIn (F.inRound l) (n - 1 - 1) P (ownPostK Kp I Ix (pre ++ [x]) W) (a₁ x) W)
    (hdone : ∀ (D : Nat) (xs : List α) (W : World), w.heap.size ≤ D → S xs → I xs W → W.heap[D]? = some (.deferred (some [])) → Q .normal { a with defers := { target := .collected D, args := #[] } :: a.defers } W)
    (hstop : ∀ (D : Nat) (c : Code) (pre : List α) (W : World), w.heap.size ≤ D → Sp pre → Ix c pre W → W.heap[D]? = some (.deferred (some [])) → c.wpIn F n P Q { a with defers := { target := .collected D, args := #[] } :: a.defers } W) :
    (Code.rangeFunc g ps assign body).wpIn F n P Q a w :=
  range_own hro h1 hg hFg eg hseq hKl (fun h k => hKt h k) hKb hb0 hps I Ix hI hIx h0 (fun x a' _ => a' = a₁ x) (fun _ _ _ _ _ _ h _ _ => h)
    (fun l pre x W K hi hK => hassign l x W K (hK _ _ (KeepsFrom.refl _ _) (hKr W) hi rfl))
    (fun l pre x a' W _ hi e hl => by subst e; exact wpIn_mono (hbody l pre x W hi hl) ownPostG_of_ownPostK') hdone hstop

/-- The same where the code that assigns lays one block for what it assigns. -/
theorem range_box {α : Type} {g : Operand} {ps : Array Tmp} {assign body : Code} {Q : Exit → Act → World → Prop} {a : Act} {w : World}
    (upd : α → Nat → Array Value → Array Value) (obj : α → Obj) (hobj : ∀ x, (obj x).isCells = true)
    (hro : F.round = none) (h1 : 1 ≤ n) {gf : Nat} {lb : Array Value} (hg : a.eval g = .func (.func gf) #[] lb) (hFg : F.fn gf) (eg : ∀ args w, (callFunc gf args).run P w = .ok (.enter gf args) w)
    {encs : α → Array Value} {Kp : World → World → Prop} {Kq : Nat → World → World → Prop} {S Sp : List α → Prop} {N : Nat} {w0 : World} (hseq : SeqO F (n - 1) P gf lb encs Kq S Sp N w0) (hKl : ∀ A B, Kp A B → Kq (w.heap.size + 1) A B)
    (hKt : ∀ {A B C : World}, Kp A B → Kp B C → Kp A C) (hKb : ∀ (W : World) (r : Loop) (o' : Obj), W.heap[w.heap.size + 1]? = some (.loop r) → Kp W (W.putObj (w.heap.size + 1) o')) (hb0 : Below w0.heap.size w0 w) (hps : ∀ x, (encs x).size = ps.size)
    (I : List α → World → Prop) (Ix : Code → List α → World → Prop) (hI : OwnFrom w.heap.size I) (hIx : ∀ c, OwnFrom w.heap.size (Ix c)) (h0 : I [] w)
    (hassign : ∀ (l : Nat) (pre : List α) (x : α) (W : World) (K : Act → World → Prop), I pre W → (∀ B W', KeepsFrom w.heap.size W W' → Kp W W' → I pre W' → w.heap.size ≤ B → W'.heap[B]? = some (obj x) → K { tmps := upd x B a.tmps, defers := [] } W') →
      assign.wpIn (F.inRound l) (n - 1 - 1) P (Exit.then K (fun _ _ _ => False)) { tmps := (ps.zip (encs x)).foldl (fun t (p, v) => t.setIfInBounds p v) a.tmps, defers := [] } W)
    (hbody : ∀ (l : Nat) (pre : List α) (x : α) (B : Nat) (W : World), w.heap.size ≤ l → I pre W → w.heap.size ≤ B → W.heap[B]? = some (obj x) → pre.length < N →
      body.wpIn (F.inRound l) (n - 1 - 1) P (ownPostG w.heap.size Kp I Ix (pre ++ [x]) W) { tmps := upd x B a.tmps, defers := [] } W)
    (hdone : ∀ (D : Nat) (xs : List α) (W : World), w.heap.size ≤ D → S xs → I xs W → W.heap[D]? = some (.deferred (some [])) → Q .normal { a with defers := { target := .collected D, args := #[] } :: a.defers } W)
    (hstop : ∀ (D : Nat) (c : Code) (pre : List α) (W : World), w.heap.size ≤ D → Sp pre → Ix c pre W → W.heap[D]? = some (.deferred (some [])) → c.wpIn F n P Q { a with defers := { target := .collected D, args := #[] } :: a.defers } W) :
    (Code.rangeFunc g ps assign body).wpIn F n P Q a w :=
  range_own hro h1 hg hFg eg hseq hKl (fun h k => hKt h k) hKb hb0 hps I Ix hI hIx h0 (fun x a' W => ∃ B, w.heap.size ≤ B ∧ W.heap[B]? = some (obj x) ∧ a' = { tmps := upd x B a.tmps, defers := [] })
    (fun x a' s A B row h hg hr => by
      obtain ⟨b, h1, h2, h3⟩ := h
      refine ⟨b, h1, (hg.block b (Array.getElem?_eq_some_iff.1 h2).1 (fun e => ?_)).trans h2, h3⟩
      obtain ⟨_, o, ho, hc⟩ := hr b e.symm
      rw [h2] at ho; cases ho; rw [hobj] at hc; cases hc)
    (fun l pre x W K hi hK => hassign l pre x W K hi (fun B W' k1 k2 i2 hb ho => hK _ W' k1 k2 i2 ⟨B, hb, ho, rfl⟩))
    (fun l pre x a' W hl hi hA hlen => by obtain ⟨B, hb, ho, rfl⟩ := hA; exact hbody l pre x B W hl hi hb ho hlen) hdone hstop

/-- What there is lies as it lay, but for the blocks of X. -/
structure Kept (X : Nat → Prop) (A B : World) : Prop where
  size : A.heap.size ≤ B.heap.size
  all : ∀ k, k < A.heap.size → ¬ X k → B.heap[k]? = A.heap[k]?
theorem Kept.same {X : Nat → Prop} {A B : World} (h : Kept X A B) (k : Nat) (o : Obj) (hk : A.heap[k]? = some o) (_ : ∀ r, o ≠ .loop r) (hx : ¬ X k) : B.heap[k]? = some o := (h.all k (Array.getElem?_eq_some_iff.1 hk).1 hx).trans hk
theorem Kept.refl (X : Nat → Prop) (A : World) : Kept X A A := ⟨Nat.le_refl _, fun _ _ _ => rfl⟩
theorem Kept.trans {X : Nat → Prop} {A B C : World} (h : Kept X A B) (k : Kept X B C) : Kept X A C := ⟨Nat.le_trans h.size k.size, fun i hi hx => (k.all i (by have := h.size; omega) hx).trans (h.all i hi hx)⟩
theorem Kept.grown {X : Nat → Prop} {A B : World} {row : Option Nat} (hg : A.grownBy B row) (hr : ∀ k, row = some k → X k) : Kept X A B :=
  ⟨hg.size, fun i hi hx => hg.block i hi (fun e => hx (hr i e.symm))⟩
theorem Kept.mono {X Y : Nat → Prop} {A B : World} (h : Kept X A B) (hXY : ∀ k, k < A.heap.size → X k → Y k) : Kept Y A B :=
  ⟨h.size, fun i hi hy => h.all i hi (fun hx => hy (hXY i hi hx))⟩
theorem Kept.alloc (X : Nat → Prop) (A : World) (o : Obj) : Kept X A (A.alloc o) := .grown (World.grownBy_alloc A o none) (by simp)
theorem Kept.of_below {X : Nat → Prop} {A B : World} (h : Below A.heap.size A B) : Kept X A B := ⟨h.size, fun i hi _ => h.block i hi⟩
theorem Kept.set {X : Nat → Prop} (A : World) (b : Nat) (v : Value) (hx : X b) : Kept X A (A.setCell ⟨b, 0, none⟩ v) := .grown (grownBy_setCell' A b v) (fun k e => by cases e; exact hx)
theorem Kept.drew (X : Nat → Prop) (A : World) : Kept X A A.drew := ⟨Nat.le_refl _, fun _ _ _ => rfl⟩
theorem Kept.put {X : Nat → Prop} (A : World) (b : Nat) (o : Obj) (hx : X b) : Kept X A (A.putObj b o) := ⟨by simp, fun k _ hk => World.putObj_heap_other (fun e => hk (e ▸ hx))⟩
theorem Kept.from {X : Nat → Prop} {A B : World} {s : Nat} (h : Kept X A B) (hs : ∀ k, X k → k < s) : KeepsFrom s A B :=
  ⟨h.size, fun k o hk ho _ => (h.all k (Array.getElem?_eq_some_iff.1 ho).1 (fun x => by have := hs k x; omega)).trans ho⟩
theorem Kept.boxed {X : Nat → Prop} {A B : World} (h : Kept X A B) {b : Nat} {t : TypeId} {v : Value} (hx : ¬ X b) (hv : Boxed A b t v) : Boxed B b t v := (h.all b hv.lt hx).trans hv

theorem round_depth {m m' : Nat} {l : Nat} {f : FuncId} {tmps : Array Value} {assign body : Code} {w : World} {R : Ending → World → Prop} (h : RoundIn Fence.wide m P l f tmps assign body w R) : RoundIn Fence.wide m' P l f tmps assign body w R :=
  ⟨h.1, fun c cs _ => h.2 c cs (fun d e => by cases e)⟩
/-- At the wide fence no depth is asked. -/
theorem yield_depth {m : Nat} (m' : Nat) {l : Nat} {args : Array Value} {W : World} {R : Ending → World → Prop} (h : YieldAt Fence.wide m P l args W R) : YieldAt Fence.wide m' P l args W R :=
  let ⟨fn, tmps, assign, body, hy, hR⟩ := h; ⟨fn, tmps, assign, body, hy, round_depth hR⟩
end Go.Proofs.Ytlocdkjnefmiaaa
namespace Go.Proofs.Ytlocdkjnefmiaaa
open Go.RowKit Go.Shelf
set_option linter.unusedVariables false
set_option linter.unusedSimpArgs false
attribute [local go_sem] Oper.semAt_some

theorem grown_of_below {W W' : World} (h : Below W.heap.size W W') : W.grownBy W' none := ⟨h.os, h.tape, h.output, h.size, fun k hk _ => h.block k hk⟩
/-- A call in a walk inside a fence that shuts nothing out. -/
theorem inWide {n : Nat} {P : Program} {f : FuncId} {args : Array Value} {w : World} {R : Ending → World → Prop} (h : Calls P f args w R) : CallsIn Fence.wide n P f args w R := callsIn_wide.2 h
theorem inWideRound {n : Nat} {P : Program} {f : FuncId} {args : Array Value} {w : World} {R : Ending → World → Prop} (l : Nat) (h : Calls P f args w R) : CallsIn (Fence.wide.inRound l) n P f args w R := CallsIn.inRound l (callsIn_wide.2 h)

/-! ### A region that draws its order, within a round: as outside of it, where nothing is deferred -/
theorem opIn_round {F : Fence} {n : Nat} {P : Program} {o : Oper} {a : Act} {w : World} {K : Act → World → Prop} {Q : Exit → Act → World → Prop} {l : Nat} (hro : F.round = none) (ho : ∀ c, o.op ≠ .defer c)
    (h : o.wpIn F n P a w K Q) : o.wpIn (F.inRound l) n P a w K Q := by
  unfold Oper.wpIn at *
  rw [hro, Oper.semAt_none] at h
  rw [Fence.inRound_round, Oper.semAt_some l _ _ ho]
  exact h
def noDefer (ops : Array Oper) : Bool := ops.all fun o => match o.op with | .defer _ => false | _ => true
theorem noDefer_spec {ops : Array Oper} (h : noDefer ops = true) {i : Nat} {o : Oper} (hi : ops[i]? = some o) : ∀ c, o.op ≠ .defer c := by
  intro c e
  obtain ⟨hlt, rfl⟩ := Array.getElem?_eq_some_iff.1 hi
  have := (Array.all_eq_true.1 h) i hlt
  rw [e] at this
  simp at this
theorem anyIn_round {F : Fence} {n : Nat} {P : Program} {md : Region.Mode} {ops : Array Oper} {Q : Exit → Act → World → Prop} {l : Nat} (hro : F.round = none) (hnd : noDefer ops = true) :
    ∀ (k : Nat) (listed : Array Bool) (a : Act) (w : World), wpAnyIn F n P md ops Q k listed a w → wpAnyIn (F.inRound l) n P md ops Q k listed a w := by
  intro k
  induction k with
  | zero => exact fun _ _ _ h => h
  | succ k ih =>
    intro listed a w h
    refine ⟨h.1, fun i hi => ?_⟩
    have h2 := h.2 i hi
    unfold wpOpIn at h2 ⊢
    split
    · rename_i e; rw [e] at h2; exact ih _ _ _ h2
    · rename_i o e
      rw [e] at h2
      simp only at h2
      split
      · rename_i hw
        rw [if_pos hw] at h2
        exact opIn_round hro (noDefer_spec hnd e) (Oper.wpIn_mono (fun a w => ih _ a w) h2)
      · rename_i hw
        rw [if_neg hw] at h2
        exact ⟨h2.1, ih _ _ _ h2.2⟩

/-! ### safeTemps -/
/-- The safe ones of the first k temperatures. -/
def safeTo (l : Ln) (k : Nat) : List Int := ((List.range k).map (fun i : Nat => (-500 : Int) + i)).filter (fun t => decide (l.safe t))
theorem safeTo_succ (l : Ln) (k : Nat) : safeTo l (k + 1) = safeTo l k ++ if l.safe (-500 + k) then [-500 + (k : Int)] else [] := by
  unfold safeTo; rw [List.range_succ, List.map_append, List.filter_append]; simp [List.filter_cons]
theorem safeTo_yes (l : Ln) (k : Nat) (h : l.safe (-500 + k)) : safeTo l (k + 1) = safeTo l k ++ [-500 + (k : Int)] := by rw [safeTo_succ, if_pos h]
theorem safeTo_no (l : Ln) (k : Nat) (h : ¬ l.safe (-500 + k)) : safeTo l (k + 1) = safeTo l k := by rw [safeTo_succ, if_neg h, List.append_nil]
theorem safeTo_len (l : Ln) (k : Nat) : (safeTo l k).length ≤ k := by
  unfold safeTo; exact Nat.le_trans (List.length_filter_le _ _) (by simp)

set_option maxRecDepth 100000 in
set_option maxHeartbeats 2000000 in
theorem safeTemps1_in (ln : Ln) (hl : ln.Ok) (n l Bs n₀ : Nat) (hn : 1 ≤ n) (hb : Bs < n₀) (J Jx : List Int → World → Prop)
    (hY : ∀ pre x W, J pre W → pre.length < 1501 → YieldAt Fence.wide (n - 1) Try.prog l #[.int .i64 x] W fun e W' =>
      (e = .returned (.bool true) ∧ J (pre ++ [x]) W' ∧ Below n₀ W W') ∨ (e = .returned (.bool false) ∧ Jx (pre ++ [x]) W'))
    (W : World) (hJ : AbidesFrom W.heap.size J) (hn₀ : n₀ ≤ W.heap.size) (hA : LnAt Bs ln W) (h0 : J [] W) :
    CallsIn Fence.wide n Try.prog 91 #[.func (.yield l) #[] #[], .pointer (some ⟨Bs, 0, none⟩)] W fun e W' => (∃ v, e = .returned v) ∧
      ((∃ ys, ys = safeTo ln 1501 ∧ J ys W') ∨ (∃ pre, (∃ k, k ≤ 1501 ∧ pre = safeTo ln k) ∧ Jx pre W')) := by
  refine callsIn_of_wp Try.func91 rfl trivial ?_ rfl
  simp only [Try.ntmps91, List.size_toArray, List.length_cons, List.length_nil, Nat.reduceAdd, Nat.reduceSub, Array.replicate_succ, Array.replicate_zero, List.push_toArray, List.append_toArray, List.nil_append, List.cons_append]
  gi_wp2
  gi_loopw [3] (fun t wr => ∃ k : Nat, k ≤ 1501 ∧ t = .int .i64 (-500 + (k : Int)) ∧ J (safeTo ln k) wr ∧ Below n₀ W wr) (fun t _ => (1001 - intOf t).toNat)
  case atStart => exact ⟨0, by omega, rfl, h0, Below.refl _ _⟩
  case round =>
    obtain ⟨k, hk, rfl, hJs, hnx⟩ := hrel
    obtain ⟨a0, a1, a2, a3, a4, a5⟩ := hA
    have c0 := (hnx.cell (p := ⟨Bs, 0, none⟩) hb).trans a0
    have c1 := (hnx.cell (p := ⟨Bs, 1, none⟩) hb).trans a1
    have c2 := (hnx.cell (p := ⟨Bs, 2, none⟩) hb).trans a2
    have c3 := (hnx.cell (p := ⟨Bs, 3, none⟩) hb).trans a3
    have c4 := (hnx.cell (p := ⟨Bs, 4, none⟩) hb).trans a4
    have c5 := (hnx.cell (p := ⟨Bs, 5, none⟩) hb).trans a5
    clear a0 a1 a2 a3 a4 a5
    by_cases hlt : k < 1501
    · have hT : Temp (-500 + (k : Int)) := by unfold Temp; omega
      by_cases hs : ln.safe (-500 + (k : Int))
      · have hr : ln.round (-500 + (k : Int)) = .agg #[.int .i64 0, .bool false] := by unfold Ln.round; rw [show ln.shift (-500 + (k : Int)) = some 0 from hs]
        have HR := hid hr
        clear hr
        have hlen := safeTo_len ln k
        gi_wp2_with (refine ⟨trivial, ?_⟩; gi_at_call 58; refine (inWide (roundAt_any ln hl _ hT _)).mono ?_; rintro e w1 ⟨rfl, hb1⟩; rw [HR.out]; obtain ⟨fn, tmps, assign, body, hy, hR⟩ := hY _ (-500 + (k : Int)) w1 (hJ _ _ _ none hJs (grown_of_below hb1) (fun _ e => by cases e)) (by omega))
        refine hR.mono ?_
        rintro e W3 (⟨rfl, hJ3, hk3⟩ | ⟨rfl, hJx3⟩)
        · gi_wp2
          go_roundw
          case rel => exact ⟨k + 1, by omega, by go_num, by rw [safeTo_yes ln k hs]; exact hJ3, (hnx.trans (hb1.mono (Nat.le_trans hn₀ hnx.size))).trans hk3⟩
          case measure => simp [intOf]; omega
        · gi_wp2
          refine bodyPost_ret (results_none rfl _ _ _) rfl ?_
          exact ⟨⟨_, rfl⟩, .inr ⟨_, ⟨k + 1, by omega, (safeTo_yes ln k hs).symm⟩, hJx3⟩⟩
      · cases hr : ln.shift (-500 + (k : Int)) with
        | none =>
          have hr2 : ln.round (-500 + (k : Int)) = .agg #[.int .i64 0, .bool true] := by unfold Ln.round; rw [hr]
          have HR := hid hr2
          clear hr hr2
          gi_wp2_with (refine ⟨trivial, ?_⟩; gi_at_call 58; refine (inWide (roundAt_any ln hl _ hT _)).mono ?_; rintro e w1 ⟨rfl, hb1⟩; rw [HR.out])
          refine ⟨fun _ _ => trivial, ?_⟩
          gi_wp2
          go_roundw
          case rel => exact ⟨k + 1, by omega, by go_num, by rw [safeTo_no ln k hs]; exact hJ _ _ _ none hJs (grown_of_below hb1) (fun _ e => by cases e), hnx.trans (hb1.mono (Nat.le_trans hn₀ hnx.size))⟩
          case measure => simp [intOf]; omega
        | some s =>
          have hr2 : ln.round (-500 + (k : Int)) = .agg #[.int .i64 s, .bool false] := by unfold Ln.round; rw [hr]
          have hs0 : (s == 0) = false := by simp; intro e; exact hs (by unfold Ln.safe; rw [hr, e])
          have HR := hid hr2
          clear hr hr2
          gi_wp2_with (refine ⟨trivial, ?_⟩; gi_at_call 58; refine (inWide (roundAt_any ln hl _ hT _)).mono ?_; rintro e w1 ⟨rfl, hb1⟩; rw [HR.out])
          refine ⟨fun _ _ => trivial, ?_⟩
          gi_wp2
          go_roundw
          case rel => exact ⟨k + 1, by omega, by go_num, by rw [safeTo_no ln k hs]; exact hJ _ _ _ none hJs (grown_of_below hb1) (fun _ e => by cases e), hnx.trans (hb1.mono (Nat.le_trans hn₀ hnx.size))⟩
          case measure => simp [intOf]; omega
    · obtain rfl : k = 1501 := by omega
      gi_wp2
      go_end0
      exact ⟨⟨_, rfl⟩, .inl ⟨_, rfl, hJs⟩⟩

theorem safeTemps_stops (ln : Ln) (hl : ln.Ok) (n Bs : Nat) (hn : 1 ≤ n) (w : World) (hb : Bs < w.heap.size) (hA : LnAt Bs ln w) :
    SeqStopsK Fence.wide n Try.prog 91 #[.pointer (some ⟨Bs, 0, none⟩)] (fun x : Int => #[Value.int .i64 x]) (Below w.heap.size) (fun ys => ys = safeTo ln 1501) (fun pre => ∃ k, k ≤ 1501 ∧ pre = safeTo ln k) 1501 w := fun l J Jx W hW hJ _ hY h0 => by
  obtain ⟨hc, _⟩ := bcell hW
  refine safeTemps1_in ln hl n l Bs w.heap.size hn hb J Jx hY W hJ hW.size ⟨?_, ?_, ?_, ?_, ?_, ?_⟩ h0 <;> rw [hc _ _ hb]
  · exact hA.1
  · exact hA.2.1
  · exact hA.2.2.1
  · exact hA.2.2.2.1
  · exact hA.2.2.2.2.1
  · exact hA.2.2.2.2.2

set_option maxHeartbeats 400000 in
theorem safeTemps_any (ln : Ln) (w : World) :
    Calls Try.prog 61 #[ln.val] w fun e w' => e = .returned (.func (.func 91) #[] #[.pointer (some ⟨w.heap.size, 0, none⟩)]) ∧
      w' = w.alloc (.cells #[.int .i64 ln.W, .int .i64 ln.B, .int .i64 ln.P, .int .i64 ln.D, .int .i64 ln.S, .int .i64 ln.N] 25) := by
  go_enter Try.func61, Try.ntmps61
  go_wp2
  go_ret
  exact ⟨rfl, rfl⟩

/-! ### ends -/
def endsStep (s : Int × Int × Bool) (v : Int) : Int × Int × Bool := if s.2.2 then (if v < s.1 then v else s.1, if s.2.1 < v then v else s.2.1, true) else (v, v, true)
def endsOf (xs : List Int) : Int × Int × Bool := xs.foldl endsStep (0, 0, false)
theorem endsOf_snoc (xs : List Int) (v : Int) : endsOf (xs ++ [v]) = endsStep (endsOf xs) v := by simp [endsOf]

/-- What ends keeps in a round. -/
abbrev EndsX (s k : Nat) : Prop := (s ≤ k ∧ k < s + 3) ∨ k = s + 4
def EndsK (s : Nat) (A B : World) : Prop := Below s A B ∧ Kept (EndsX s) A B
theorem ends_fin {w W : World} {lo hi a b : Int} {pre : List Int} (x0 : Boxed W w.heap.size 3 (.int .i64 lo)) (x1 : Boxed W (w.heap.size + 1) 3 (.int .i64 hi)) (x2 : Boxed W (w.heap.size + 1 + 1) 4 (.bool true))
    (hB : Below w.heap.size w W) (hs : endsOf pre = (a, b, true)) :
    KeepsOthers W (((W.setCell ⟨w.heap.size, 0, none⟩ (.int .i64 a)).setCell ⟨w.heap.size + 1, 0, none⟩ (.int .i64 b)).drew) ∧
    EndsK w.heap.size W (((W.setCell ⟨w.heap.size, 0, none⟩ (.int .i64 a)).setCell ⟨w.heap.size + 1, 0, none⟩ (.int .i64 b)).drew) ∧
    (Boxed (((W.setCell ⟨w.heap.size, 0, none⟩ (.int .i64 a)).setCell ⟨w.heap.size + 1, 0, none⟩ (.int .i64 b)).drew) w.heap.size 3 (.int .i64 (endsOf pre).1) ∧
     Boxed (((W.setCell ⟨w.heap.size, 0, none⟩ (.int .i64 a)).setCell ⟨w.heap.size + 1, 0, none⟩ (.int .i64 b)).drew) (w.heap.size + 1) 3 (.int .i64 (endsOf pre).2.1) ∧
     Boxed (((W.setCell ⟨w.heap.size, 0, none⟩ (.int .i64 a)).setCell ⟨w.heap.size + 1, 0, none⟩ (.int .i64 b)).drew) (w.heap.size + 1 + 1) 4 (.bool (endsOf pre).2.2)) ∧
    Below w.heap.size w (((W.setCell ⟨w.heap.size, 0, none⟩ (.int .i64 a)).setCell ⟨w.heap.size + 1, 0, none⟩ (.int .i64 b)).drew) := by
  rw [hs]
  have hb : Below w.heap.size W (((W.setCell ⟨w.heap.size, 0, none⟩ (.int .i64 a)).setCell ⟨w.heap.size + 1, 0, none⟩ (.int .i64 b)).drew) :=
    (((Below.refl _ _).setCell (p := ⟨w.heap.size, 0, none⟩) (Nat.le_refl _) _).setCell (p := ⟨w.heap.size + 1, 0, none⟩) (by simp) _).drew
  exact ⟨((KeepsOthers.setCell _ _ _).trans (KeepsOthers.setCell _ _ _)).trans (KeepsOthers.drew _), ⟨hb, ((Kept.set _ _ _ (.inl ⟨by omega, by omega⟩)).trans (Kept.set _ _ _ (.inl ⟨by omega, by omega⟩))).trans (Kept.drew _ _)⟩, ⟨(x0.set _).other (by omega) _, (x1.other (by omega) _).set _, (x2.other (by omega) _).other (by omega) _⟩, hB.trans hb⟩
set_option maxRecDepth 100000 in
set_option maxHeartbeats 2000000 in
theorem ends_in (gf : Nat) (lb : Array Value) (xs : List Int) (Sp : List Int → Prop) (N : Nat) (w : World) (hgf : ∀ args w, (callFunc gf args).run Try.prog w = .ok (.enter gf args) w)
    (hseq : SeqO Fence.wide 9 Try.prog gf lb (fun x : Int => #[Value.int .i64 x]) (fun l A B => Below w.heap.size A B ∧ Kept (fun k => w.heap.size ≤ k ∧ k ≤ l) A B) (fun ys => ys = xs) Sp N w) :
    CallsIn Fence.wide 10 Try.prog 60 #[.func (.func gf) #[] lb] w (Ret w (.tuple #[.int .i64 (endsOf xs).1, .int .i64 (endsOf xs).2.1, .bool (endsOf xs).2.2])) := by
  refine callsIn_of_wp_marks Try.func60 rfl trivial ?_ rfl
  simp only [Try.ntmps60, List.size_toArray, List.length_cons, List.length_nil, Nat.reduceAdd, Nat.reduceSub, Array.replicate_succ, Array.replicate_zero, List.push_toArray, List.append_toArray, List.nil_append, List.cons_append]
  gi_wp2
  have n0 := Boxed.new w 3 (.int .i64 0)
  have n1 := Boxed.new (w.alloc (.cells #[.int .i64 0] 3)) 3 (.int .i64 0)
  have n2 := Boxed.new ((w.alloc (.cells #[.int .i64 0] 3)).alloc (.cells #[.int .i64 0] 3)) 4 (.bool false)
  simp only [World.size_alloc] at n1 n2
  have hB0 : Below w.heap.size w (((w.alloc (.cells #[.int .i64 0] 3)).alloc (.cells #[.int .i64 0] 3)).alloc (.cells #[.bool false] 4)) := b_alloc (b_alloc (b_alloc (Below.refl _ _) _) _) _
  refine range_ownF rfl (by omega) (gf := gf) (lb := lb) rfl trivial hgf hseq (fun A B (h : EndsK w.heap.size A B) => ⟨h.1, h.2.mono (fun k _ hx => by simp only [World.size_alloc]; rcases hx with ⟨a, b⟩ | e <;> omega)⟩) (fun W => ⟨Below.refl _ _, Kept.refl _ _⟩) (fun h k => ⟨h.1.trans k.1, h.2.trans k.2⟩) (fun W r o' h2 => ⟨belowK_b hB0.size W _ _ o' (by omega) h2 rfl rfl, Kept.put W _ o' (.inr (by simp))⟩) hB0 (fun _ => rfl)
    (fun pre W => (Boxed W w.heap.size 3 (.int .i64 (endsOf pre).1) ∧ Boxed W (w.heap.size + 1) 3 (.int .i64 (endsOf pre).2.1) ∧ Boxed W (w.heap.size + 1 + 1) 4 (.bool (endsOf pre).2.2)) ∧ Below w.heap.size w W)
    (fun _ _ _ => False)
    (OwnFrom.and (OwnFrom.and (Own.from (boxed_own _ _ _) _) (OwnFrom.and (Own.from (boxed_own _ _ _) _) (Own.from (boxed_own _ _ _) _))) (ownFrom_below (Nat.le_refl _) hB0.size))
    (fun _ _ _ _ _ hs _ _ => hs)
    ⟨⟨(n0.alloc _).alloc _, n1.alloc _, n2⟩, hB0⟩
    (fun x => { tmps := #[.func (.func gf) #[] lb, undef, .pointer (some ⟨w.heap.size, 0, none⟩), .pointer (some ⟨w.heap.size + 1, 0, none⟩), .pointer (some ⟨w.heap.size + 1 + 1, 0, none⟩), .int .i64 x, .func (.func gf) #[] lb, .int .i64 x, undef, undef, undef, undef, undef, undef, undef, undef, undef, undef, undef, undef, undef], defers := [] }) ?assign ?body ?done ?stop
  case assign =>
    intro l x W K hK
    gi_wp2
    exact hK
  case body =>
    rintro l pre x W ⟨⟨x0, x1, x2⟩, hB⟩ _
    have hmx : Try.prog.follows .mixedOrders = true := by kernel_rfl
    obtain ⟨lo, hi, f, he⟩ : ∃ lo hi f, endsOf pre = (lo, hi, f) := ⟨_, _, _, rfl⟩
    rw [he] at x0 x1 x2
    simp only at x0 x1 x2
    have HE := hid he
    clear he
    have c0 := x0.cell
    have c1 := x1.cell
    have c2 := x2.cell
    have f0 := x0.frozen
    have f1 := x1.frozen
    have f2 := x2.frozen
    cases f with
    | false =>
      have hs : endsOf (pre ++ [x]) = (x, x, true) := by rw [endsOf_snoc, HE.out]; rfl
      have hs := hid hs
      have y0 := ((x0.set (.int .i64 x)).other (B' := w.heap.size + 1) (by omega) (.int .i64 x)).other (B' := w.heap.size + 1 + 1) (by omega) (.bool true)
      have y1 := ((x1.other (B' := w.heap.size) (by omega) (.int .i64 x)).set (.int .i64 x)).other (B' := w.heap.size + 1 + 1) (by omega) (.bool true)
      have y2 := ((x2.other (B' := w.heap.size) (by omega) (.int .i64 x)).other (B' := w.heap.size + 1) (by omega) (.int .i64 x)).set (.bool true)
      have yb : Below w.heap.size W (((W.setCell ⟨w.heap.size, 0, none⟩ (.int .i64 x)).setCell ⟨w.heap.size + 1, 0, none⟩ (.int .i64 x)).setCell ⟨w.heap.size + 1 + 1, 0, none⟩ (.bool true)) :=
        (((Below.refl _ _).setCell (p := ⟨w.heap.size, 0, none⟩) (Nat.le_refl _) (.int .i64 x)).setCell (p := ⟨w.heap.size + 1, 0, none⟩) (by simp) (.int .i64 x)).setCell (p := ⟨w.heap.size + 1 + 1, 0, none⟩) (by simp; omega) (.bool true)
      have yq : Kept (EndsX w.heap.size) W (((W.setCell ⟨w.heap.size, 0, none⟩ (.int .i64 x)).setCell ⟨w.heap.size + 1, 0, none⟩ (.int .i64 x)).setCell ⟨w.heap.size + 1 + 1, 0, none⟩ (.bool true)) :=
        ((Kept.set _ _ _ (.inl ⟨by omega, by omega⟩)).trans (Kept.set _ _ _ (.inl ⟨by omega, by omega⟩))).trans (Kept.set _ _ _ (.inl ⟨by omega, by omega⟩))
      have yk : KeepsOthers W (((W.setCell ⟨w.heap.size, 0, none⟩ (.int .i64 x)).setCell ⟨w.heap.size + 1, 0, none⟩ (.int .i64 x)).setCell ⟨w.heap.size + 1 + 1, 0, none⟩ (.bool true)) :=
        ((KeepsOthers.setCell _ _ _).trans (KeepsOthers.setCell _ _ _)).trans (KeepsOthers.setCell _ _ _)
      gi_wp2
      generalize World.setCell (World.setCell (World.setCell W ⟨w.heap.size, 0, none⟩ (.int .i64 x)) ⟨w.heap.size + 1, 0, none⟩ (.int .i64 x)) ⟨w.heap.size + 1 + 1, 0, none⟩ (.bool true) = W3 at *
      clear c0 c1 c2 f0 f1 f2
      have c0 := y0.cell
      have c1 := y1.cell
      have c2 := y2.cell
      have f0 := y0.frozen
      have f1 := y1.frozen
      have f2 := y2.frozen
      have h1 := ends_fin y0 y1 y2 (hB.trans yb) hs.out
      have hfin := hid (And.intro (yk.trans h1.1) (And.intro (And.intro (yb.trans h1.2.1.1) (yq.trans h1.2.1.2)) h1.2.2))
      clear h1 hs
      refine wpIn_region_any hmx (anyIn_round (F := Fence.wide) rfl (by kernel_rfl) _ _ _ _ ?_)
      change wpAnyIn _ _ _ _ _ _ _ _ _ (World.drew _)
      (refine wpAnyIn_take (i := 1) (v := ?_) rfl rfl (by kernel_rfl) (by kernel_rfl) (by kernel_rfl) (fun _ _ _ h => h) ⟨Or.inl ⟨by rfl, ?_⟩, fun _ => rfl⟩ ?_; rotate_left; · (intro w; go_simp; try with_reducible rfl))
      (refine wpAnyIn_take (i := 4) (v := ?_) rfl rfl (by kernel_rfl) (by kernel_rfl) (by kernel_rfl) (fun _ _ _ h => h) ⟨Or.inl ⟨by rfl, ?_⟩, fun _ => rfl⟩ ?_; rotate_left; · (intro w; go_simp; try with_reducible rfl))
      refine wpAnyIn_ready (rs := [0, 3]) (by kernel_rfl) (by simp) ?_
      refine AllReadyIn.cons rfl (fun K hK => ?_) (AllReadyIn.cons rfl (fun K hK => ?_) AllReadyIn.nil)
      · (go_simp; refine hK _ _ ?_; clear hK K)
        (refine wpAnyIn_take (i := 2) (v := ?_) rfl rfl (by kernel_rfl) (by kernel_rfl) (by kernel_rfl) (fun _ _ _ h => h) ⟨Or.inl ⟨by rfl, ?_⟩, fun _ => rfl⟩ ?_; rotate_left; · (intro w; go_simp; try with_reducible rfl))
        refine wpAnyIn_ready (rs := [3, 6]) (by kernel_rfl) (by simp) ?_
        refine AllReadyIn.cons rfl (fun K hK => ?_) (AllReadyIn.cons rfl (fun K hK => ?_) AllReadyIn.nil)
        · (go_simp; refine hK _ _ ?_; clear hK K)
          (refine wpAnyIn_take (i := 5) (v := ?_) rfl rfl (by kernel_rfl) (by kernel_rfl) (by kernel_rfl) (fun _ _ _ h => h) ⟨Or.inl ⟨by rfl, ?_⟩, fun _ => rfl⟩ ?_; rotate_left; · (intro w; go_simp; try with_reducible rfl))
          (refine wpAnyIn_ready (rs := [6]) (by kernel_rfl) (by simp) (AllReadyIn.cons rfl (fun K hK => ?_) AllReadyIn.nil); go_simp; refine hK _ _ ?_; clear hK K)
          (refine wpAnyIn_ready (rs := [7]) (by kernel_rfl) (by simp) (AllReadyIn.cons rfl (fun K hK => ?_) AllReadyIn.nil); go_simp; refine hK _ _ ?_; clear hK K)
          refine wpAnyIn_done (by kernel_rfl) ?_ _
          exact hfin.out
        · (go_simp; refine hK _ _ ?_; clear hK K)
          (refine wpAnyIn_ready (rs := [3]) (by kernel_rfl) (by simp) (AllReadyIn.cons rfl (fun K hK => ?_) AllReadyIn.nil); go_simp; refine hK _ _ ?_; clear hK K)
          (refine wpAnyIn_take (i := 5) (v := ?_) rfl rfl (by kernel_rfl) (by kernel_rfl) (by kernel_rfl) (fun _ _ _ h => h) ⟨Or.inl ⟨by rfl, ?_⟩, fun _ => rfl⟩ ?_; rotate_left; · (intro w; go_simp; try with_reducible rfl))
          (refine wpAnyIn_ready (rs := [7]) (by kernel_rfl) (by simp) (AllReadyIn.cons rfl (fun K hK => ?_) AllReadyIn.nil); go_simp; refine hK _ _ ?_; clear hK K)
          refine wpAnyIn_done (by kernel_rfl) ?_ _
          exact hfin.out
      · (go_simp; refine hK _ _ ?_; clear hK K)
        (refine wpAnyIn_take (i := 5) (v := ?_) rfl rfl (by kernel_rfl) (by kernel_rfl) (by kernel_rfl) (fun _ _ _ h => h) ⟨Or.inl ⟨by rfl, ?_⟩, fun _ => rfl⟩ ?_; rotate_left; · (intro w; go_simp; try with_reducible rfl))
        (refine wpAnyIn_ready (rs := [0]) (by kernel_rfl) (by simp) (AllReadyIn.cons rfl (fun K hK => ?_) AllReadyIn.nil); go_simp; refine hK _ _ ?_; clear hK K)
        (refine wpAnyIn_take (i := 2) (v := ?_) rfl rfl (by kernel_rfl) (by kernel_rfl) (by kernel_rfl) (fun _ _ _ h => h) ⟨Or.inl ⟨by rfl, ?_⟩, fun _ => rfl⟩ ?_; rotate_left; · (intro w; go_simp; try with_reducible rfl))
        (refine wpAnyIn_ready (rs := [6]) (by kernel_rfl) (by simp) (AllReadyIn.cons rfl (fun K hK => ?_) AllReadyIn.nil); go_simp; refine hK _ _ ?_; clear hK K)
        (refine wpAnyIn_ready (rs := [7]) (by kernel_rfl) (by simp) (AllReadyIn.cons rfl (fun K hK => ?_) AllReadyIn.nil); go_simp; refine hK _ _ ?_; clear hK K)
        refine wpAnyIn_done (by kernel_rfl) ?_ _
        exact hfin.out
    | true =>
      have hs : endsOf (pre ++ [x]) = (if x < lo then x else lo, if hi < x then x else hi, true) := by rw [endsOf_snoc, HE.out]; rfl
      have hfin := hid (ends_fin x0 x1 x2 hB hs)
      clear hs
      gi_wp2
      refine wpIn_region_any hmx (anyIn_round (F := Fence.wide) rfl (by kernel_rfl) _ _ _ _ ?_)
      change wpAnyIn _ _ _ _ _ _ _ _ _ (World.drew _)
      (refine wpAnyIn_take (i := 1) (v := ?_) rfl rfl (by kernel_rfl) (by kernel_rfl) (by kernel_rfl) (fun _ _ _ h => h) ⟨Or.inl ⟨by rfl, ?_⟩, fun _ => rfl⟩ ?_; rotate_left; · (intro w; go_simp; try with_reducible rfl))
      (refine wpAnyIn_take (i := 4) (v := ?_) rfl rfl (by kernel_rfl) (by kernel_rfl) (by kernel_rfl) (fun _ _ _ h => h) ⟨Or.inl ⟨by rfl, ?_⟩, fun _ => rfl⟩ ?_; rotate_left; · (intro w; go_simp; try with_reducible rfl))
      refine wpAnyIn_ready (rs := [0, 3]) (by kernel_rfl) (by simp) ?_
      refine AllReadyIn.cons rfl (fun K hK => ?_) (AllReadyIn.cons rfl (fun K hK => ?_) AllReadyIn.nil)
      · (go_simp; refine hK _ _ ?_; clear hK K)
        (refine wpAnyIn_take (i := 2) (v := ?_) rfl rfl (by kernel_rfl) (by kernel_rfl) (by kernel_rfl) (fun _ _ _ h => h) ⟨Or.inl ⟨by rfl, ?_⟩, fun _ => rfl⟩ ?_; rotate_left; · (intro w; go_simp; try with_reducible rfl))
        refine wpAnyIn_ready (rs := [3, 6]) (by kernel_rfl) (by simp) ?_
        refine AllReadyIn.cons rfl (fun K hK => ?_) (AllReadyIn.cons rfl (fun K hK => ?_) AllReadyIn.nil)
        · (go_simp; refine hK _ _ ?_; clear hK K)
          (refine wpAnyIn_take (i := 5) (v := ?_) rfl rfl (by kernel_rfl) (by kernel_rfl) (by kernel_rfl) (fun _ _ _ h => h) ⟨Or.inl ⟨by rfl, ?_⟩, fun _ => rfl⟩ ?_; rotate_left; · (intro w; go_simp; try with_reducible rfl))
          (refine wpAnyIn_ready (rs := [6]) (by kernel_rfl) (by simp) (AllReadyIn.cons rfl (fun K hK => ?_) AllReadyIn.nil); go_simp; refine hK _ _ ?_; clear hK K)
          (refine wpAnyIn_ready (rs := [7]) (by kernel_rfl) (by simp) (AllReadyIn.cons rfl (fun K hK => ?_) AllReadyIn.nil); go_simp; refine hK _ _ ?_; clear hK K)
          refine wpAnyIn_done (by kernel_rfl) ?_ _
          exact hfin.out
        · (go_simp; refine hK _ _ ?_; clear hK K)
          (refine wpAnyIn_ready (rs := [3]) (by kernel_rfl) (by simp) (AllReadyIn.cons rfl (fun K hK => ?_) AllReadyIn.nil); go_simp; refine hK _ _ ?_; clear hK K)
          (refine wpAnyIn_take (i := 5) (v := ?_) rfl rfl (by kernel_rfl) (by kernel_rfl) (by kernel_rfl) (fun _ _ _ h => h) ⟨Or.inl ⟨by rfl, ?_⟩, fun _ => rfl⟩ ?_; rotate_left; · (intro w; go_simp; try with_reducible rfl))
          (refine wpAnyIn_ready (rs := [7]) (by kernel_rfl) (by simp) (AllReadyIn.cons rfl (fun K hK => ?_) AllReadyIn.nil); go_simp; refine hK _ _ ?_; clear hK K)
          refine wpAnyIn_done (by kernel_rfl) ?_ _
          exact hfin.out
      · (go_simp; refine hK _ _ ?_; clear hK K)
        (refine wpAnyIn_take (i := 5) (v := ?_) rfl rfl (by kernel_rfl) (by kernel_rfl) (by kernel_rfl) (fun _ _ _ h => h) ⟨Or.inl ⟨by rfl, ?_⟩, fun _ => rfl⟩ ?_; rotate_left; · (intro w; go_simp; try with_reducible rfl))
        (refine wpAnyIn_ready (rs := [0]) (by kernel_rfl) (by simp) (AllReadyIn.cons rfl (fun K hK => ?_) AllReadyIn.nil); go_simp; refine hK _ _ ?_; clear hK K)
        (refine wpAnyIn_take (i := 2) (v := ?_) rfl rfl (by kernel_rfl) (by kernel_rfl) (by kernel_rfl) (fun _ _ _ h => h) ⟨Or.inl ⟨by rfl, ?_⟩, fun _ => rfl⟩ ?_; rotate_left; · (intro w; go_simp; try with_reducible rfl))
        (refine wpAnyIn_ready (rs := [6]) (by kernel_rfl) (by simp) (AllReadyIn.cons rfl (fun K hK => ?_) AllReadyIn.nil); go_simp; refine hK _ _ ?_; clear hK K)
        (refine wpAnyIn_ready (rs := [7]) (by kernel_rfl) (by simp) (AllReadyIn.cons rfl (fun K hK => ?_) AllReadyIn.nil); go_simp; refine hK _ _ ?_; clear hK K)
        refine wpAnyIn_done (by kernel_rfl) ?_ _
        exact hfin.out
  case done =>
    rintro D ys W hD rfl ⟨⟨x0, x1, x2⟩, hB⟩ hK
    have c0 := x0.cell
    have c1 := x1.cell
    have c2 := x2.cell
    have f0 := x0.frozen
    have f1 := x1.frozen
    have f2 := x2.frozen
    have hmx : Try.prog.follows .mixedOrders = true := by kernel_rfl
    gi_wp2
    gi_region_o
    gi_wp2
    have hD' : w.heap.size + 3 ≤ D := by simp at hD; omega
    generalize endsOf ys = z at *
    obtain ⟨lo, hi, f⟩ := z
    simp only at x0 x1 x2 c0 c1 c2 ⊢
    have y0 := ((x0.set (.int .i64 lo)).other (B' := w.heap.size + 1) (by omega) (.int .i64 hi)).other (B' := w.heap.size + 1 + 1) (by omega) (.bool f)
    have y1 := ((x1.other (B' := w.heap.size) (by omega) (.int .i64 lo)).set (.int .i64 hi)).other (B' := w.heap.size + 1 + 1) (by omega) (.bool f)
    have y2 := ((x2.other (B' := w.heap.size) (by omega) (.int .i64 lo)).other (B' := w.heap.size + 1) (by omega) (.int .i64 hi)).set (.bool f)
    have yk : KeepsOthers W (((W.setCell ⟨w.heap.size, 0, none⟩ (.int .i64 lo)).setCell ⟨w.heap.size + 1, 0, none⟩ (.int .i64 hi)).setCell ⟨w.heap.size + 1 + 1, 0, none⟩ (.bool f)) :=
      ((KeepsOthers.setCell _ _ _).trans (KeepsOthers.setCell _ _ _)).trans (KeepsOthers.setCell _ _ _)
    have yb := (((hB.setCell (p := ⟨w.heap.size, 0, none⟩) (Nat.le_refl _) (.int .i64 lo)).setCell (p := ⟨w.heap.size + 1, 0, none⟩) (by simp) (.int .i64 hi)).setCell (p := ⟨w.heap.size + 1 + 1, 0, none⟩) (by simp; omega) (.bool f)).drew
    generalize World.setCell (World.setCell (World.setCell W ⟨w.heap.size, 0, none⟩ (.int .i64 lo)) ⟨w.heap.size + 1, 0, none⟩ (.int .i64 hi)) ⟨w.heap.size + 1 + 1, 0, none⟩ (.bool f) = W3 at *
    have hK3 : W3.drew.heap[D]? = some (.deferred (some [])) := yk.same D _ hK rfl
    have g := grownBy_putObj' W3.drew D (.deferred none)
    have z0 := (Boxed.kept (W := W3.drew) y0 g (fun e => by cases e; omega)).cell
    have z1 := (Boxed.kept (W := W3.drew) y1 g (fun e => by cases e; omega)).cell
    have z2 := (Boxed.kept (W := W3.drew) y2 g (fun e => by cases e; omega)).cell
    refine ⟨by simp, .inl ⟨_, _, rfl, run_takeDeferred hK3, ?_⟩⟩
    refine ⟨.tuple #[.int .i64 lo, .int .i64 hi, .bool f], ?_, rfl, yb.trans (belowK_b (w := w) (Nat.le_refl _) _ D _ _ (by omega) hK3 rfl rfl)⟩
    simp [results, Try.f60, go_sem, z0, z1, z2]
  case stop =>
    rintro D c pre W _ _ h _
    exact h.elim

theorem ends_any (gf : Nat) (lb : Array Value) (xs : List Int) (Sp : List Int → Prop) (N : Nat) (w : World) (hgf : ∀ args w, (callFunc gf args).run Try.prog w = .ok (.enter gf args) w)
    (hseq : SeqO Fence.wide 9 Try.prog gf lb (fun x : Int => #[Value.int .i64 x]) (fun l A B => Below w.heap.size A B ∧ Kept (fun k => w.heap.size ≤ k ∧ k ≤ l) A B) (fun ys => ys = xs) Sp N w) :
    Calls Try.prog 60 #[.func (.func gf) #[] lb] w (Ret w (.tuple #[.int .i64 (endsOf xs).1, .int .i64 (endsOf xs).2.1, .bool (endsOf xs).2.2])) :=
  callsIn_wide.1 (ends_in gf lb xs Sp N w hgf hseq)

/-! ### Safe -/
theorem lnAt_new (ln : Ln) (w : World) : LnAt w.heap.size ln (w.alloc (.cells #[.int .i64 ln.W, .int .i64 ln.B, .int .i64 ln.P, .int .i64 ln.D, .int .i64 ln.S, .int .i64 ln.N] 25)) := by
  unfold LnAt; simp [go_sem]
def Ln.ends (l : Ln) : Int × Int × Bool := endsOf (safeTo l 1501)
def Ln.safeV (l : Ln) : Value :=
  if l.Ok then (if l.ends.2.2 then .tuple #[.agg #[.int .i64 l.ends.1, .int .i64 l.ends.2.1], .int .i64 0] else .tuple #[.agg #[.int .i64 0, .int .i64 0], .int .i64 9])
  else .tuple #[.agg #[.int .i64 0, .int .i64 0], .int .i64 7]

theorem safeEnds (ln : Ln) (hl : ln.Ok) (W : World) (Bs : Nat) (hb : Bs < W.heap.size) (hA : LnAt Bs ln W) :
    Calls Try.prog 60 #[.func (.func 91) #[] #[.pointer (some ⟨Bs, 0, none⟩)]] W (Ret W (.tuple #[.int .i64 ln.ends.1, .int .i64 ln.ends.2.1, .bool ln.ends.2.2])) := by
  have hq := safeTemps_stops ln hl 9 Bs (by omega) W hb hA
  unfold Ln.ends
  generalize safeTo ln 1501 = xs at *
  generalize (1501 : Nat) = N at *
  exact ends_any _ _ xs _ N _ (enters_of Try.func91 (by kernel_rfl) rfl) ((SeqO.of_stops hq).keep (fun _ _ _ h => h.1))

set_option maxHeartbeats 1000000 in
theorem Safe_no (l : Ln) (h : ¬ l.Ok) (w : World) : Calls Try.prog 27 #[l.val] w (Ret w (.tuple #[.agg #[.int .i64 0, .int .i64 0], .int .i64 7])) := by
  go_enter Try.func27, Try.ntmps27
  go_wp2_with (go_at_call 25; refine (Check_no l h _).mono ?_; rintro e w1 ⟨rfl, hb1⟩; obtain ⟨hc1, hf1⟩ := bcell hb1)
  refine bodyPost_ret (v := .tuple #[.agg #[.int .i64 0, .int .i64 0], .int .i64 7]) (by simp [results, Try.results27, go_sem, hc1]) rfl ⟨rfl, by (repeat (first | assumption | exact Below.refl _ _ | refine b_alloc ?_ _ | refine Below.drew ?_ | refine b_drewN ?_ _ | refine Below.setCell ?_ (by first | omega | (simp; done) | (simp; omega)) _ | refine b_call (by assumption) ?_))⟩
set_option maxHeartbeats 1000000 in
theorem Safe_ok (l : Ln) (h : l.Ok) (w : World) : Calls Try.prog 27 #[l.val] w (Ret w l.safeV) := by
  have hs := safeEnds l h
  unfold Ln.safeV
  rw [if_pos h]
  generalize l.ends = z at *
  obtain ⟨lo, hi, f⟩ := z
  simp only at hs ⊢
  have HS := hid hs
  clear hs
  cases f with
  | false =>
    go_enter Try.func27, Try.ntmps27
    go_wp2_with (first
      | ((go_at_call 25; refine (Check_ok l h _).mono ?_; rintro e w1 ⟨rfl, hb1⟩; obtain ⟨hc1, hf1⟩ := bcell hb1); have k0 := ((Cel.new _ #[.int .i64 0, .int .i64 0] 31 0 _ rfl).call hb1); have k1 := ((Cel.new _ #[.int .i64 0, .int .i64 0] 31 1 _ rfl).call hb1))
      | (go_at_call 61; refine (safeTemps_any l _).mono ?_; rintro e w2 ⟨rfl, rfl⟩)
      | (go_at_call 60; refine (HS.out _ _ (by simp) (lnAt_new l _)).mono ?_; rintro e w3 ⟨rfl, hb3⟩; obtain ⟨q0, q2⟩ := (k0.alloc _).call hb3; obtain ⟨q1, q3⟩ := (k1.alloc _).call hb3; simp only [World.size_alloc] at q0 q1 q2 q3))
    refine bodyPost_ret (v := .tuple #[.agg #[.int .i64 0, .int .i64 0], .int .i64 9]) (by simp [results, Try.results27, go_sem, q0, q1]) rfl ⟨rfl, by (repeat (first | assumption | exact Below.refl _ _ | refine b_alloc ?_ _ | refine Below.drew ?_ | refine b_drewN ?_ _ | refine Below.setCell ?_ (by first | omega | (simp; done) | (simp; omega)) _ | refine b_call (by assumption) ?_))⟩
  | true =>
    go_enter Try.func27, Try.ntmps27
    go_wp2_with (first
      | ((go_at_call 25; refine (Check_ok l h _).mono ?_; rintro e w1 ⟨rfl, hb1⟩; obtain ⟨hc1, hf1⟩ := bcell hb1); have k0 := ((Cel.new _ #[.int .i64 0, .int .i64 0] 31 0 _ rfl).call hb1); have k1 := ((Cel.new _ #[.int .i64 0, .int .i64 0] 31 1 _ rfl).call hb1))
      | (go_at_call 61; refine (safeTemps_any l _).mono ?_; rintro e w2 ⟨rfl, rfl⟩)
      | (go_at_call 60; refine (HS.out _ _ (by simp) (lnAt_new l _)).mono ?_; rintro e w3 ⟨rfl, hb3⟩; obtain ⟨q0, q2⟩ := (k0.alloc _).call hb3; obtain ⟨q1, q3⟩ := (k1.alloc _).call hb3; simp only [World.size_alloc] at q0 q1 q2 q3))
    refine bodyPost_ret (v := .tuple #[.agg #[.int .i64 lo, .int .i64 hi], .int .i64 0]) (by simp [results, Try.results27, go_sem, q0, q1]) rfl ⟨rfl, by (repeat (first | assumption | exact Below.refl _ _ | refine b_alloc ?_ _ | refine Below.drew ?_ | refine b_drewN ?_ _ | refine Below.setCell ?_ (by first | omega | (simp; done) | (simp; omega)) _ | refine b_call (by assumption) ?_))⟩

theorem Safe_any (l : Ln) (w : World) : Calls Try.prog 27 #[l.val] w (Ret w l.safeV) := by
  by_cases h : l.Ok
  · exact Safe_ok l h w
  · unfold Ln.safeV; rw [if_neg h]; exact Safe_no l h w
end Go.Proofs.Ytlocdkjnefmiaaa
