/-
  Sets: maps keyed by a struct of an int and a bool, whose elements are true.
  The sets of numbers, 64 to a word.
  The list of a set of numbers.
  roundsWithin.
  laterBy: sums of a number and a shift.
  tempsError, canError, Can.
  Can.
  What Can returns, as the laws read it.
-/
import Derived.Maps.OwnOps
import Derived.Maps.OwnSet
import Derived.Maps.RangeWalk
import Derived.Maps.Views
import Derived.DeepKeys4
import Derived.Test.YtlocdkjnefmiaaaGSmall
import Derived.StillTailTactics
import Derived.Deep.RegionWith
import Derived.Test.YtlocdkjnefmiaaaGPass
namespace Go.Proofs.Ytlocdkjnefmiaaa
open Go.RowKit
open Go.Maps (Keyed has)
set_option linter.unusedVariables false
set_option linter.unusedSimpArgs false

/-- A struct of an int and a bool. -/
abbrev pv (s : Int) (c : Bool) : Value := .agg #[.int .i64 s, .bool c]
theorem laidOut : laidOutB Try.prog = true := by kernel_rfl
theorem lawR : Keyed Try.prog 81 := Keyed.of_law (deep_law_laid laidOut (m := 2) (by omega) (of_decide_eq_true (by kernel_rfl)) (by kernel_rfl) (by rw [Try.underlying81]))
theorem lawC : Keyed Try.prog 116 := Keyed.of_law (deep_law_laid laidOut (m := 2) (by omega) (of_decide_eq_true (by kernel_rfl)) (by kernel_rfl) (by rw [Try.underlying116]))

/-- What is asked of the key's type. -/
structure PairKey (K : TypeId) : Prop where
  law : Keyed Try.prog K
  key : ∀ s c, (Lit.int .i64 s).wf = true → ∃ kl, keyOf Try.prog K (pv s c) = some kl
  inv : ∀ v kl, keyOf Try.prog K v = some kl → ∃ s c, v = pv s c ∧ (Lit.int .i64 s).wf = true

theorem keyR_mk (s : Int) (c : Bool) (h : (Lit.int .i64 s).wf = true) : ∃ kl, keyOf Try.prog 81 (pv s c) = some kl := by
  have e1 : Try.prog.keyType 81 = true := by kernel_rfl
  have e2 : Try.prog.cellsOf 81 = 2 := by kernel_rfl
  have e3 : Try.prog.cellsOf 3 = 1 := by kernel_rfl
  have e4 : Try.prog.cellsOf 4 = 1 := by kernel_rfl
  have e5 : (pv s c).formed Try.prog 81 = true := by simp [Value.formed, Try.underlying81, e2]
  obtain ⟨N, hN⟩ : ∃ N, Try.prog.types.size + 1 = N + 1 + 1 := ⟨Try.prog.types.size - 1, by have : (1 : Nat) < Try.prog.types.size := of_decide_eq_true (by kernel_rfl); omega⟩
  unfold keyOf
  rw [Try.underlying81]
  simp only [e1, e5, hN]
  simp [Program.keyLits, Try.underlying81, Try.underlying3, Try.underlying4, e2, e3, e4, Value.cells, h]
theorem keyR_inv (v : Value) (kl : Lit) (h : keyOf Try.prog 81 v = some kl) : ∃ s c, v = pv s c ∧ (Lit.int .i64 s).wf = true := by
  have e2 : Try.prog.cellsOf 81 = 2 := by kernel_rfl
  have e3 : Try.prog.cellsOf 3 = 1 := by kernel_rfl
  have e4 : Try.prog.cellsOf 4 = 1 := by kernel_rfl
  obtain ⟨N, hN⟩ : ∃ N, Try.prog.types.size + 1 = N + 1 + 1 := ⟨Try.prog.types.size - 1, by have : (1 : Nat) < Try.prog.types.size := of_decide_eq_true (by kernel_rfl); omega⟩
  obtain ⟨xs, L, rfl, h1, _⟩ := keyOf_top (by rw [Try.underlying81]) h
  obtain ⟨xs⟩ := xs
  simp only [hN] at h1
  simp only [Program.keyLits, Try.underlying81, e2] at h1
  split at h1
  · rename_i hl
    have hl1 : xs.length = 2 := hl.1
    clear hl h hN
    rcases xs with _ | ⟨x, _ | ⟨y, _ | ⟨z, zs⟩⟩⟩
    · cases hl1
    · cases hl1
    · simp [Program.keyLits, Try.underlying3, Try.underlying4, e3, e4] at h1
      cases x <;> simp at h1
      rename_i k n
      by_cases hk : k = IntKind.i64 ∧ (Lit.int IntKind.i64 n).wf = true
      · obtain ⟨rfl, hw⟩ := hk
        cases y <;> simp [hw] at h1
        exact ⟨_, _, rfl, hw⟩
      · rw [if_neg hk] at h1; simp at h1
    · simp at hl1
  · cases h1
theorem keyC_mk (s : Int) (c : Bool) (h : (Lit.int .i64 s).wf = true) : ∃ kl, keyOf Try.prog 116 (pv s c) = some kl := by
  have e1 : Try.prog.keyType 116 = true := by kernel_rfl
  have e2 : Try.prog.cellsOf 116 = 2 := by kernel_rfl
  have e3 : Try.prog.cellsOf 3 = 1 := by kernel_rfl
  have e4 : Try.prog.cellsOf 4 = 1 := by kernel_rfl
  have e5 : (pv s c).formed Try.prog 116 = true := by simp [Value.formed, Try.underlying116, e2]
  obtain ⟨N, hN⟩ : ∃ N, Try.prog.types.size + 1 = N + 1 + 1 := ⟨Try.prog.types.size - 1, by have : (1 : Nat) < Try.prog.types.size := of_decide_eq_true (by kernel_rfl); omega⟩
  unfold keyOf
  rw [Try.underlying116]
  simp only [e1, e5, hN]
  simp [Program.keyLits, Try.underlying116, Try.underlying3, Try.underlying4, e2, e3, e4, Value.cells, h]
theorem keyC_inv (v : Value) (kl : Lit) (h : keyOf Try.prog 116 v = some kl) : ∃ s c, v = pv s c ∧ (Lit.int .i64 s).wf = true := by
  have e2 : Try.prog.cellsOf 116 = 2 := by kernel_rfl
  have e3 : Try.prog.cellsOf 3 = 1 := by kernel_rfl
  have e4 : Try.prog.cellsOf 4 = 1 := by kernel_rfl
  obtain ⟨N, hN⟩ : ∃ N, Try.prog.types.size + 1 = N + 1 + 1 := ⟨Try.prog.types.size - 1, by have : (1 : Nat) < Try.prog.types.size := of_decide_eq_true (by kernel_rfl); omega⟩
  obtain ⟨xs, L, rfl, h1, _⟩ := keyOf_top (by rw [Try.underlying116]) h
  obtain ⟨xs⟩ := xs
  simp only [hN] at h1
  simp only [Program.keyLits, Try.underlying116, e2] at h1
  split at h1
  · rename_i hl
    have hl1 : xs.length = 2 := hl.1
    clear hl h hN
    rcases xs with _ | ⟨x, _ | ⟨y, _ | ⟨z, zs⟩⟩⟩
    · cases hl1
    · cases hl1
    · simp [Program.keyLits, Try.underlying3, Try.underlying4, e3, e4] at h1
      cases x <;> simp at h1
      rename_i k n
      by_cases hk : k = IntKind.i64 ∧ (Lit.int IntKind.i64 n).wf = true
      · obtain ⟨rfl, hw⟩ := hk
        cases y <;> simp [hw] at h1
        exact ⟨_, _, rfl, hw⟩
      · rw [if_neg hk] at h1; simp at h1
    · simp at hl1
  · cases h1
theorem pairR : PairKey 81 := ⟨lawR, keyR_mk, keyR_inv⟩
theorem pairC : PairKey 116 := ⟨lawC, keyC_mk, keyC_inv⟩

/-- What a datum says of the pairs: at those of S it has 'true', at the others nothing. -/
def Holds (K : TypeId) (S : Int → Bool → Bool) (D : DataW Unit) : Prop :=
  ∀ s c kl, keyOf Try.prog K (pv s c) = some kl → D.atKey kl (.lit (.bool false)) = .lit (.bool (S s c)) ∧ has D kl = S s c
/-- Block b is the set S, of at most n entries. -/
def SetAt (W : World) (K : TypeId) (b n : Nat) (S : Int → Bool → Bool) : Prop :=
  ∃ D : DataW Unit, W.ownsMap Try.prog K (plainElem Try.prog 4) b n D ∧ Holds K S D

theorem SetAt.made (W : World) (K : TypeId) : SetAt (W.alloc (.map #[] 0)) K W.heap.size 0 (fun _ _ => false) :=
  ⟨.map [], World.ownsMap_made _ _ _ _, fun s c kl _ => ⟨rfl, rfl⟩⟩
theorem SetAt.kept {W W' : World} {K : TypeId} {b n : Nat} {S : Int → Bool → Bool} {row : Option Nat} (h : SetAt W K b n S) (hg : W.grownBy W' row) (hne : some b ≠ row) : SetAt W' K b n S :=
  let ⟨D, h1, h2⟩ := h; ⟨D, h1.kept hg hne, h2⟩
theorem SetAt.below {W W' : World} {K : TypeId} {b n : Nat} {S : Int → Bool → Bool} (h : SetAt W K b n S) (hb : Below W.heap.size W W') : SetAt W' K b n S :=
  h.kept (⟨hb.os, hb.tape, hb.output, hb.size, fun k hk _ => hb.block k hk⟩ : W.grownBy W' none) (by simp)
theorem SetAt.alloc {W : World} {K : TypeId} {b n : Nat} {S : Int → Bool → Bool} (h : SetAt W K b n S) (o : Obj) : SetAt (W.alloc o) K b n S :=
  h.kept (World.grownBy_alloc W o none) (by simp)
theorem SetAt.lt {W : World} {K : TypeId} {b n : Nat} {S : Int → Bool → Bool} (h : SetAt W K b n S) : b < W.heap.size := let ⟨_, h1, _⟩ := h; h1.lt
theorem SetAt.congr {W : World} {K : TypeId} {b n : Nat} {S S' : Int → Bool → Bool} (h : SetAt W K b n S) (he : ∀ s c, S s c = S' s c) : SetAt W K b n S' := by
  have : S = S' := funext fun s => funext fun c => he s c
  rw [← this]; exact h

theorem plainElem_bool_inv {H : Type} {P : Program} {e : TypeId} (he : P.underlying e = some .bool) {v : Value} {z : DataW H × List MemPlace} (h : plainElem P e v = some z) : ∃ x, v = .bool x ∧ z = (.lit (.bool x), []) := by
  unfold plainElem at h
  rw [he] at h
  cases v <;> simp at h
  exact ⟨_, rfl, h.symm⟩
theorem zeroB (w : World) : (zeroValue 4).run Try.prog w = .ok (.bool false) w := by kernel_rfl

/-- 'm[x]': is x in the set? -/
theorem SetAt.look {W : World} {K t : TypeId} {b n : Nat} {S : Int → Bool → Bool} (h : SetAt W K b n S) (hk : PairKey K) (ht : Try.prog.underlying t = some (.map K 4)) {s : Int} (hs : (Lit.int .i64 s).wf = true) (c : Bool) :
    (Instr.lookup t (.map (some b)) (pv s c) false).run Try.prog W = .ok (.bool (S s c)) W := by
  obtain ⟨D, hown, hD⟩ := h
  obtain ⟨kl, hkl⟩ := hk.key s c hs
  obtain ⟨v, ps, hrun, hv⟩ := hown.lookup hk.law ht (zeroB W) (plainElem_bool Try.underlying4 false) hkl
  obtain ⟨x, rfl, hx⟩ := plainElem_bool_inv Try.underlying4 hv
  have := (hD s c kl hkl).1
  rw [this] at hx
  simp at hx
  rw [hrun, hx.1]

/-- 'm[x] = true'. -/
theorem SetAt.store {W : World} {K t : TypeId} {b n : Nat} {S : Int → Bool → Bool} (h : SetAt W K b n S) (hk : PairKey K) (ht : Try.prog.underlying t = some (.map K 4)) (hn : n < maxLen) {s : Int} (hs : (Lit.int .i64 s).wf = true) (c : Bool) :
    ∃ W', (Instr.mapUpdate t (.map (some b)) (pv s c) (.bool true)).run Try.prog W = .ok () W' ∧ SetAt W' K b (n + 1) (fun s' c' => S s' c' || (s' == s && c' == c)) ∧ W.grownBy W' (some b) := by
  obtain ⟨D, hown, hD⟩ := h
  obtain ⟨kl, hkl⟩ := hk.key s c hs
  obtain ⟨W', hrun, hown', hg⟩ := hown.update hk.law ht hn hkl (plainElem_bool Try.underlying4 true)
  refine ⟨W', hrun, ⟨_, hown', fun s' c' kl' hkl' => ?_⟩, hg⟩
  have hm := (hown.tidy hk.law).isMap
  by_cases e : s' = s ∧ c' = c
  · obtain ⟨rfl, rfl⟩ := e
    rw [hkl] at hkl'; cases hkl'
    have hl := hk.law.key hkl
    exact ⟨by rw [Maps.atKey_put_same hm hl]; simp, by rw [Maps.has_put_same hm hl]; simp⟩
  · have hne : kl' ≠ kl := fun e' => by
      subst e'
      have := hk.law.inj hkl' hkl
      simp [pv] at this
      exact e this
    have hb : (s' == s && c' == c) = false := by
      cases h : (s' == s && c' == c)
      · rfl
      · simp at h; exact absurd h e
    rw [Maps.atKey_put_other hne, Maps.has_put_other hne, (hD s' c' kl' hkl').1, (hD s' c' kl' hkl').2]
    simp only [hb, Bool.or_false, and_self]

theorem wpList_set_look {ops : Array Oper} {rest : List Oper} {o : Oper} {a : Act} {Q : Exit → Act → World → Prop} (W : World)
    (hg : o.guard = none) (m x : Operand) (t : TypeId) (hop : o.op = Op.lookup t m x false) {K : TypeId} (hk : PairKey K) (ht : Try.prog.underlying t = some (.map K 4)) (b n : Nat) (S : Int → Bool → Bool)
    (hm : a.eval m = .map (some b)) (h : SetAt W K b n S) (s : Int) (c : Bool) (hx : a.eval x = pv s c) (hs : (Lit.int .i64 s).wf = true)
    (hK : wpList Try.prog ops Q rest (a.put o.dst (.bool (S s c))) W) : wpList Try.prog ops Q (o :: rest) a W := by
  refine wpList_plain hg fun K' hK' => ?_
  have hrun := h.look hk ht hs c
  unfold Oper.wp
  simp [execOp, hop, hm, hx, hrun, Result.andThen]
  exact hK' _ _ hK
theorem wpList_set_store {ops : Array Oper} {rest : List Oper} {o : Oper} {a : Act} {Q : Exit → Act → World → Prop} (W : World)
    (hg : o.guard = none) (m x v : Operand) (t : TypeId) (hop : o.op = Op.mapUpdate t m x v) {K : TypeId} (hk : PairKey K) (ht : Try.prog.underlying t = some (.map K 4)) (b n : Nat) (S : Int → Bool → Bool)
    (hm : a.eval m = .map (some b)) (h : SetAt W K b n S) (hn : n < maxLen) (s : Int) (c : Bool) (hx : a.eval x = pv s c) (hv : a.eval v = .bool true) (hs : (Lit.int .i64 s).wf = true)
    (hK : ∀ W', SetAt W' K b (n + 1) (fun s' c' => S s' c' || (s' == s && c' == c)) → W.grownBy W' (some b) → wpList Try.prog ops Q rest (a.put o.dst undef) W') : wpList Try.prog ops Q (o :: rest) a W := by
  refine wpList_plain hg fun K' hK' => ?_
  obtain ⟨W', hrun, r1, r2⟩ := h.store hk ht hn hs c
  unfold Oper.wp
  simp [execOp, hop, hm, hx, hv, hrun, Result.andThen]
  exact hK' _ _ (hK W' r1 r2)

/-- Block r is a loop over the set S in block b; L: what is still to come; cnt: how many. -/
def RangeAt (W : World) (K : TypeId) (b r n : Nat) (S L : Int → Bool → Bool) (cnt : Nat) : Prop :=
  ∃ (D : DataW Unit) (left : Lit → Bool), W.ranges Try.prog K (plainElem Try.prog 4) b r n D left cnt ∧ Holds K S D ∧ ∀ s c kl, keyOf Try.prog K (pv s c) = some kl → left kl = L s c
theorem RangeAt.left {W : World} {K : TypeId} {b r n : Nat} {S L : Int → Bool → Bool} {cnt : Nat} (h : RangeAt W K b r n S L cnt) : W.rangeLeft b r = cnt := let ⟨_, _, h1, _⟩ := h; h1.left_eq
theorem RangeAt.kept {W W' : World} {K : TypeId} {b r n : Nat} {S L : Int → Bool → Bool} {cnt : Nat} {row : Option Nat} (h : RangeAt W K b r n S L cnt) (hg : W.grownBy W' row) (h1 : some b ≠ row) (h2 : some r ≠ row) : RangeAt W' K b r n S L cnt :=
  let ⟨D, left, a1, a2, a3⟩ := h; ⟨D, left, a1.kept hg h1 h2, a2, a3⟩
theorem RangeAt.below {W W' : World} {K : TypeId} {b r n : Nat} {S L : Int → Bool → Bool} {cnt : Nat} (h : RangeAt W K b r n S L cnt) (hb : Below W.heap.size W W') : RangeAt W' K b r n S L cnt :=
  h.kept (⟨hb.os, hb.tape, hb.output, hb.size, fun k hk _ => hb.block k hk⟩ : W.grownBy W' none) (by simp) (by simp)
theorem RangeAt.lt {W : World} {K : TypeId} {b r n : Nat} {S L : Int → Bool → Bool} {cnt : Nat} (h : RangeAt W K b r n S L cnt) : r < W.heap.size := let ⟨_, _, h1, _⟩ := h; h1.lt

theorem wpList_set_range {ops : Array Oper} {rest : List Oper} {o : Oper} {a : Act} {Q : Exit → Act → World → Prop} (W : World)
    (hg : o.guard = none) (m : Operand) (t : TypeId) (hop : o.op = Op.range t m) {K : TypeId} (hk : PairKey K) (ht : Try.prog.underlying t = some (.map K 4)) (b n : Nat) (S : Int → Bool → Bool)
    (hm : a.eval m = .map (some b)) (h : SetAt W K b n S)
    (hK : ∀ W' cnt, RangeAt W' K b W.heap.size n S S cnt → W.grownBy W' none → W'.heap.size = W.heap.size + 1 → wpList Try.prog ops Q rest (a.put o.dst (.pointer (some ⟨W.heap.size, 0, none⟩))) W') :
    wpList Try.prog ops Q (o :: rest) a W := by
  obtain ⟨D, hown, hD⟩ := h
  exact wpList_range_own W hg m t hop K 4 hk.law ht _ b n D hm hown fun W' h1 h2 h3 => hK W' _ ⟨D, _, h1, hD, fun s c kl hkl => (hD s c kl hkl).2⟩ h2 h3

theorem wpList_set_next {ops : Array Oper} {rest : List Oper} {o : Oper} {a : Act} {Q : Exit → Act → World → Prop} (W : World)
    (hg : o.guard = none) (it : Operand) (hop : o.op = Op.next it false) {K : TypeId} (hk : PairKey K) (b r n : Nat) (S L : Int → Bool → Bool) (cnt : Nat)
    (hit : a.eval it = .pointer (some ⟨r, 0, none⟩)) (h : RangeAt W K b r n S L cnt)
    (hDone : cnt = 0 → (∀ s c, (Lit.int .i64 s).wf = true → L s c = false) → wpList Try.prog ops Q rest (a.put o.dst (.tuple #[.bool false])) W)
    (hMore : ∀ (s : Int) (c : Bool) (W' : World) (cnt' : Nat), (Lit.int .i64 s).wf = true → L s c = true → S s c = true → RangeAt W' K b r n S (fun s' c' => L s' c' && !(s' == s && c' == c)) cnt' → cnt' < cnt →
      W.grownBy W' (some r) → W'.heap.size = W.heap.size → (Instr.entry (.pointer (some ⟨r, 0, none⟩))).run Try.prog W' = .ok (.tuple #[pv s c, .bool true]) W' → wpList Try.prog ops Q rest (a.put o.dst (.tuple #[.bool true, pv s c, .bool true])) W') :
    wpList Try.prog ops Q (o :: rest) a W := by
  obtain ⟨D, left, hr, hD, hL⟩ := h
  refine wpList_next_ranges W hg it hop K hk.law _ (fun x : Int × Bool => pv x.1 x.2) Value.bool (fun v kl hv => by obtain ⟨s, c, rfl, _⟩ := hk.inv v kl hv; exact ⟨(s, c), rfl⟩)
    (fun v y hv => by obtain ⟨x, rfl, _⟩ := plainElem_bool_inv Try.underlying4 hv; exact ⟨x, rfl⟩) b r n D left cnt hit hr ?_ ?_
  · intro h0 hl
    exact hDone h0 fun s c hs => by obtain ⟨kl, hkl⟩ := hk.key s c hs; rw [← hL s c kl hkl]; exact hl kl
  · rintro ⟨s, c⟩ v kl y W' cnt' hkl hlk hv hat hr' hlt hgr hsz hen
    obtain ⟨s', c', e, hs⟩ := hk.inv _ kl hkl
    simp only [pv, Value.agg.injEq, Array.mk.injEq, List.cons.injEq, Value.int.injEq, Value.bool.injEq, true_and, and_true] at e
    obtain ⟨rfl, rfl⟩ := e
    obtain ⟨x, e, rfl⟩ := plainElem_bool_inv Try.underlying4 hv
    cases e
    have hS : S s c = true := by rw [← (hD s c kl hkl).2]; exact Maps.has_true_of_atKey hat
    have hv1 : v = true := by
      have h1 := hat (.lit (.bool false))
      rw [(hD s c kl hkl).1, hS] at h1
      simpa using h1.symm
    subst hv1
    refine hMore s c W' cnt' hs (by rw [← hL s c kl hkl]; exact hlk) hS ⟨D, _, hr', hD, fun s' c' kl' hkl' => ?_⟩ hlt hgr hsz hen
    simp only [hL s' c' kl' hkl']
    by_cases e : s' = s ∧ c' = c
    · obtain ⟨rfl, rfl⟩ := e
      rw [hkl] at hkl'; cases hkl'
      rw [WideAt.sameKey_self (hk.law.key hkl)]; simp
    · have hne : kl' ≠ kl := fun e' => by
        subst e'
        have := hk.law.inj hkl' hkl
        simp [pv] at this
        exact e this
      rw [Maps.sameKey_ne hne]
      have hb : (s' == s && c' == c) = false := by
        cases h : (s' == s && c' == c)
        · rfl
        · simp at h; exact absurd h e
      rw [hb]
end Go.Proofs.Ytlocdkjnefmiaaa
namespace Go.Proofs.Ytlocdkjnefmiaaa
open Go.RowKit
set_option linter.unusedVariables false
set_option linter.unusedSimpArgs false

theorem infoU : (Try.prog.info? 131).map (fun i => (i.zero, i.size, i.bytes)) = some (some (.int .u64 0), 1, 8) := by kernel_rfl
/-- The words of a set, as cells. -/
def cellsU (xs : List Nat) : List Value := xs.map fun x : Nat => Value.int .u64 (x : Int)
/-- A set of numbers lies in a row from base on: its words are xs. -/
def NumsAt (W : World) (base g : Nat) (cap : Nat) (xs : List Nat) : Prop :=
  W.ownsRow base 131 1 (.slice (some ⟨g, 0, none⟩) xs.length cap) xs.length (cellsU xs) ∧ ∀ x ∈ xs, x < 2 ^ 64
/-- n is one of the numbers. -/
def mem (xs : List Nat) (n : Nat) : Bool := (xs[n / 64]?.getD 0).testBit (n % 64)

set_option maxRecDepth 100000 in
set_option maxHeartbeats 1000000 in
theorem numbersBelow_any (n : Nat) (hn : n ≤ 6000) (w : World) :
    Calls Try.prog 70 #[.int .i64 n] w fun e w' => ∃ g cap, e = .returned (.slice (some ⟨g, 0, none⟩) (n / 64 + 2) cap) ∧ NumsAt w' w.heap.size g cap (List.replicate (n / 64 + 2) 0) ∧ Below w.heap.size w w' := by
  obtain ⟨iI, hiI, hzI0, hzI1, hzI2⟩ := info_parts infoU
  obtain ⟨m, hm⟩ : ∃ m, n / 64 = m := ⟨_, rfl⟩
  have e1 : (n : Int).tdiv 64 = (m : Int) := by rw [Int.tdiv_eq_ediv_of_nonneg (by omega), ← hm]; simp
  have hm1 : m ≤ 100 := by omega
  rw [hm]
  have HM := hid hm
  clear hm
  go_enter Try.func70, Try.ntmps70
  go_wp2_with (refine wpList_make_full _ rfl _ _ 101 rfl w.heap.size 131 iI (.int .u64 0) 1 Try.underlying101 hiI hzI0 hzI1 .i64 .i64 ((m : Int) + 2) ((m : Int) + 2) (m + 2) rfl rfl (by omega) (by omega) (by rw [hzI2]; omega) (by unfold maxLen; omega) (by simp) ?_; intro w2 hown hgrow)
  have hz : (madeCells (Value.int .u64 0).cells ((m + 2) * 1)).toList = cellsU (List.replicate (m + 2) 0) := by
    rw [Nat.mul_one, show (Value.int .u64 0).cells = #[Value.int .u64 0] from rfl, toList_madeCells_one]; simp [cellsU]
  rw [hz] at hown
  go_ret
  exact ⟨_, m + 2, rfl, ⟨by simpa using hown, by simp⟩, below_of_grown hgrow⟩

theorem mem_zero (m n : Nat) : mem (List.replicate m 0) n = false := by
  unfold mem
  rw [List.getElem?_replicate]
  split <;> simp

theorem NumsAt.cell {W : World} {base g cap : Nat} {xs : List Nat} (h : NumsAt W base g cap xs) {i x : Nat} (hi : i < xs.length) (hx : xs[i]?.getD 0 = x) : W.cell? ⟨g, i, none⟩ = some (.int .u64 (x : Int)) := by
  refine (h.1.cellAt i (by simpa [cellsU] using hi)).trans ?_
  subst hx
  simp [cellsU, hi]
theorem NumsAt.frozen {W : World} {base g cap : Nat} {xs : List Nat} (h : NumsAt W base g cap xs) (i : Nat) : W.frozen? ⟨g, i, none⟩ = false := h.1.frozenAt i
theorem NumsAt.stored {W : World} {base g cap : Nat} {xs : List Nat} (h : NumsAt W base g cap xs) {i y : Nat} (hy : y < 2 ^ 64) : NumsAt (W.setCell ⟨g, i, none⟩ (.int .u64 (y : Int))) base g cap (xs.set i y) := by
  have hst := h.1.stored i (.int .u64 (y : Int))
  refine ⟨?_, fun x hx => ?_⟩
  · have := hst.1
    simpa [cellsU, List.map_set] using this
  · rcases List.mem_or_eq_of_mem_set hx with hx | rfl
    · exact h.2 x hx
    · exact hy
theorem NumsAt.kept {W W' : World} {base g cap : Nat} {xs : List Nat} {row : Option Nat} (h : NumsAt W base g cap xs) (hg : W.grownBy W' row) (hne : some g ≠ row) : NumsAt W' base g cap xs :=
  ⟨h.1.kept hg (.inr (by simpa [Value.ownBlock] using hne)), h.2⟩
theorem NumsAt.below {W W' : World} {base g cap : Nat} {xs : List Nat} (h : NumsAt W base g cap xs) (hb : Below W.heap.size W W') : NumsAt W' base g cap xs := h.kept (⟨hb.os, hb.tape, hb.output, hb.size, fun k hk _ => hb.block k hk⟩ : W.grownBy W' none) (by simp)
theorem NumsAt.lt {W : World} {base g cap : Nat} {xs : List Nat} (h : NumsAt W base g cap xs) : base ≤ g ∧ g < W.heap.size := h.1.lt g rfl

theorem wrapU_in (n : Int) (h0 : 0 ≤ n) (h1 : n < 2 ^ 64) : IntKind.u64.wrap n = n := by
  have : IntKind.u64.wrap n = n % 2 ^ 64 := rfl
  rw [this]; exact Int.emod_eq_of_lt h0 h1
theorem pow_lt64 {b : Nat} (h : b < 64) : (0 : Int) ≤ 2 ^ b ∧ (2 : Int) ^ b < 2 ^ 64 := by
  have h1 : (2 : Nat) ^ b < 2 ^ 64 := Nat.pow_lt_pow_right (by omega) h
  exact ⟨Int.le_of_lt (Int.pow_pos (by omega)), by exact_mod_cast h1⟩
theorem or_u64 (x b : Nat) (hx : x < 2 ^ 64) (hb : b < 64) : bits BinOp.or IntKind.u64 (x : Int) ((2 : Int) ^ b) = ((x ||| 2 ^ b : Nat) : Int) := by
  have h := (bits_nat .u64 64 (by decide) (fun n h0 h1 => wrapU_in n h0 h1) x (2 ^ b) hx (Nat.pow_lt_pow_right (by omega) hb)).2
  rwa [show ((2 ^ b : Nat) : Int) = (2 : Int) ^ b by simp] at h

set_option maxRecDepth 100000 in
set_option maxHeartbeats 1000000 in
theorem add_any (xs : List Nat) (n : Nat) (hn : n < 64 * xs.length) (hn9 : n ≤ 6000) (base g cap : Nat) (w : World) (hx : NumsAt w base g cap xs) :
    Calls Try.prog 72 #[.slice (some ⟨g, 0, none⟩) xs.length cap, .int .i64 n] w fun e w' => e = .returned (.tuple #[]) ∧ NumsAt w' base g cap (xs.set (n / 64) (xs[n / 64]?.getD 0 ||| 2 ^ (n % 64))) ∧ w.grownBy w' (some g) := by
  obtain ⟨i, hi⟩ : ∃ i, n / 64 = i := ⟨_, rfl⟩
  obtain ⟨b, hb⟩ : ∃ b, n % 64 = b := ⟨_, rfl⟩
  have hil : i < xs.length := by omega
  have hb1 : b < 64 := by omega
  obtain ⟨x, hxv⟩ : ∃ x, xs[i]?.getD 0 = x := ⟨_, rfl⟩
  have hx64 : x < 2 ^ 64 := hx.2 x (by rw [← hxv]; simp [hil])
  have c1 := hx.cell hil hxv
  have c2 := hx.frozen i
  have e1 : (n : Int).tdiv 64 = (i : Int) := by rw [Int.tdiv_eq_ediv_of_nonneg (by omega), ← hi]; simp
  have e2 : (n : Int).tmod 64 = (b : Int) := by rw [Int.tmod_eq_emod_of_nonneg (by omega), ← hb]; simp
  have e3 := or_u64 x b hx64 hb1
  have f1 : IntKind.i64.wrap (i : Int) = (i : Int) := IntWalk.i64_in _ (by omega)
  have f2 : IntKind.i64.wrap (b : Int) = (b : Int) := IntWalk.i64_in _ (by omega)
  have f3 : IntKind.u64.wrap ((2 : Int) ^ b) = (2 : Int) ^ b := wrapU_in _ (pow_lt64 hb1).1 (pow_lt64 hb1).2
  have e5 : (i : Int) < (xs.length : Int) := by omega
  have e6 : (0 : Int) ≤ (i : Int) := by omega
  have e7 : (b : Int) < 64 := by omega
  have e8 : (0 : Int) ≤ (b : Int) := by omega
  rw [hi, hb, hxv]
  have HX := hid hx
  clear hi hb hxv hx
  go_enter Try.func72, Try.ntmps72
  go_wp2
  go_still_tail 10, (by kernel_rfl)
  change wpList _ _ _ _ _ w.drew
  go_wp2
  have hy : x ||| 2 ^ b < 2 ^ 64 := Nat.or_lt_two_pow hx64 (Nat.pow_lt_pow_right (by omega) hb1)
  refine ⟨rfl, .tuple #[], by simp [results, Try.f72, go_sem], rfl, NumsAt.stored (W := w.drew) HX.out hy, ?_⟩
  exact ⟨rfl, rfl, rfl, by simp, fun k hk hne => Below.heap_setCell w.drew _ _ k (fun e => hne (by rw [e]))⟩

theorem mem_set {xs : List Nat} {i y : Nat} (hi : i < xs.length) (n : Nat) : mem (xs.set i y) n = if n / 64 = i then y.testBit (n % 64) else mem xs n := by
  unfold mem
  rw [List.getElem?_set]
  by_cases h : i = n / 64
  · rw [if_pos h, if_pos (by omega), if_pos h.symm]; rfl
  · rw [if_neg h, if_neg (fun e => h e.symm)]
theorem mem_or {xs : List Nat} {i z : Nat} (hi : i < xs.length) (n : Nat) : mem (xs.set i (xs[i]?.getD 0 ||| z)) n = (mem xs n || (decide (n / 64 = i) && z.testBit (n % 64))) := by
  rw [mem_set hi]
  by_cases h : n / 64 = i
  · rw [if_pos h, Nat.testBit_or]; simp [mem, h]
  · rw [if_neg h]; simp [h]
theorem mem_add {xs : List Nat} {m : Nat} (hi : m / 64 < xs.length) (n : Nat) : mem (xs.set (m / 64) (xs[m / 64]?.getD 0 ||| 2 ^ (m % 64))) n = (mem xs n || n == m) := by
  rw [mem_or hi, Nat.testBit_two_pow]
  congr 1
  have : (n == m) = decide (n = m) := rfl
  rw [this, ← Bool.decide_and]
  exact decide_eq_decide.2 ⟨fun h => by omega, fun h => by subst h; exact ⟨rfl, rfl⟩⟩
theorem bit_high {x j : Nat} (hx : x < 2 ^ 64) (hj : 64 ≤ j) : x.testBit j = false := Nat.testBit_lt_two_pow (Nat.lt_of_lt_of_le hx (Nat.pow_le_pow_right (by omega) hj))
/-- One word more is moved in. -/
theorem mem_moved {xs : List Nat} {x f b k : Nat} (hb : b < 64) (hx : x < 2 ^ 64) (hl : f + k + 1 < xs.length) (n : Nat) :
    mem ((xs.set (f + k) (xs[f + k]?.getD 0 ||| (x <<< b) % 2 ^ 64)).set (f + k + 1) ((xs.set (f + k) (xs[f + k]?.getD 0 ||| (x <<< b) % 2 ^ 64))[f + k + 1]?.getD 0 ||| x >>> (64 - b))) n =
      (mem xs n || (decide (64 * f + b ≤ n) && decide ((n - (64 * f + b)) / 64 = k) && x.testBit ((n - (64 * f + b)) % 64))) := by
  rw [mem_or (by simpa using hl), mem_or (by omega), Bool.or_assoc]
  congr 1
  rw [Nat.testBit_mod_two_pow, Nat.testBit_shiftLeft, Nat.testBit_shiftRight]
  have hm : n % 64 < 64 := Nat.mod_lt _ (by omega)
  by_cases h1 : n / 64 = f + k
  · have h2 : ¬ n / 64 = f + k + 1 := by omega
    simp only [h1, h2, hm, decide_true, decide_false, Bool.true_and, Bool.false_and, Bool.or_false]
    by_cases h3 : b ≤ n % 64
    · rw [show (n - (64 * f + b)) % 64 = n % 64 - b by omega]
      have h4 : 64 * f + b ≤ n := by omega
      have h5 : (n - (64 * f + b)) / 64 = k := by omega
      simp [h3, h4, h5]
    · by_cases h4 : 64 * f + b ≤ n
      · have h5 : ¬ (n - (64 * f + b)) / 64 = k := by omega
        simp [h3, h5]
      · simp [h3, h4]
  · by_cases h2 : n / 64 = f + k + 1
    · have h4 : 64 * f + b ≤ n := by omega
      simp only [h1, h2, h4, decide_true, decide_false, Bool.true_and, Bool.false_and, Bool.false_or]
      by_cases h5 : (n - (64 * f + b)) / 64 = k
      · rw [show (n - (64 * f + b)) % 64 = 64 - b + n % 64 by omega]; simp [h5]
      · rw [bit_high (j := 64 - b + n % 64) hx (by omega)]; simp [h5]
    · by_cases h4 : 64 * f + b ≤ n
      · have h5 : ¬ (n - (64 * f + b)) / 64 = k := by omega
        simp [h1, h2, h5]
      · simp [h1, h2, h4]
/-- What has been moved when the first k words have been. -/
def movedTo (xs ys : List Nat) (by' k n : Nat) : Bool := mem xs n || (decide (by' ≤ n) && decide ((n - by') / 64 < k) && mem ys (n - by'))
theorem movedTo_zero (xs ys : List Nat) (d n : Nat) : movedTo xs ys d 0 n = mem xs n := by simp [movedTo]
theorem movedTo_all (xs ys : List Nat) (d n : Nat) : movedTo xs ys d ys.length n = (mem xs n || (decide (d ≤ n) && mem ys (n - d))) := by
  unfold movedTo
  congr 1
  by_cases h : (n - d) / 64 < ys.length
  · simp [h]
  · have : mem ys (n - d) = false := by unfold mem; rw [List.getElem?_eq_none (by omega)]; simp
    simp [this]
theorem movedTo_succ {xs ys : List Nat} {f b k x : Nat} (hx : ys[k]?.getD 0 = x) (n : Nat) :
    movedTo xs ys (64 * f + b) (k + 1) n = (movedTo xs ys (64 * f + b) k n || (decide (64 * f + b ≤ n) && decide ((n - (64 * f + b)) / 64 = k) && x.testBit ((n - (64 * f + b)) % 64))) := by
  unfold movedTo
  rw [Bool.or_assoc]
  congr 1
  by_cases h : 64 * f + b ≤ n
  · by_cases h1 : (n - (64 * f + b)) / 64 = k
    · have h2 : ¬ (n - (64 * f + b)) / 64 < k := by omega
      have h3 : (n - (64 * f + b)) / 64 < k + 1 := by omega
      simp only [h, h1, h2, h3, decide_true, decide_false, Bool.true_and, Bool.false_and, Bool.false_or, Bool.and_true]
      unfold mem; rw [h1, hx]; simp
    · have h3 : ((n - (64 * f + b)) / 64 < k + 1) ↔ ((n - (64 * f + b)) / 64 < k) := by omega
      simp [h, h1, h3]
  · simp [h]

set_option maxRecDepth 100000 in
set_option maxHeartbeats 2000000 in
theorem addMoved_any (xs ys : List Nat) (d : Nat) (hd : d ≤ 6000) (hlx : xs.length ≤ 200) (hly : ys.length ≤ 200) (hroom : ∀ k, k < ys.length → ys[k]?.getD 0 ≠ 0 → d / 64 + k + 1 < xs.length) (base base' g cap gy cy : Nat) (hgy : gy ≠ g) (w : World)
    (hx : NumsAt w base g cap xs) (hy : NumsAt w base' gy cy ys) :
    Calls Try.prog 95 #[.slice (some ⟨g, 0, none⟩) xs.length cap, .slice (some ⟨gy, 0, none⟩) ys.length cy, .int .i64 d] w fun e w' =>
      e = .returned (.tuple #[]) ∧ (∃ zs, zs.length = xs.length ∧ NumsAt w' base g cap zs ∧ ∀ n, mem zs n = (mem xs n || (decide (d ≤ n) && mem ys (n - d)))) ∧ w.grownBy w' (some g) := by
  obtain ⟨f, hf⟩ : ∃ f, d / 64 = f := ⟨_, rfl⟩
  obtain ⟨b, hb⟩ : ∃ b, d % 64 = b := ⟨_, rfl⟩
  have hb1 : b < 64 := by omega
  have hfd : d = 64 * f + b := by omega
  have e1 : (d : Int).tdiv 64 = (f : Int) := by rw [Int.tdiv_eq_ediv_of_nonneg (by omega), ← hf]; simp
  have e2 : (d : Int).tmod 64 = (b : Int) := by rw [Int.tmod_eq_emod_of_nonneg (by omega), ← hb]; simp
  rw [hf] at hroom
  have HFD := hid hfd
  have HX0 := hid hx
  have HY0 := hid hy
  have HR := hid hroom
  have hf1 : f ≤ 100 := by omega
  clear hf hb hx hy hfd hroom
  go_enter Try.func95, Try.ntmps95
  go_wp2
  have hy0 : ∀ wr, w.grownBy wr (some g) → NumsAt wr base' gy cy ys := fun wr hg => HY0.out.kept hg (by simpa using hgy)
  have HYW := hid hy0
  clear hy0
  go_loopw [16] (fun i wr => ∃ (k : Nat) (zs : List Nat), k ≤ ys.length ∧ i = .int .i64 k ∧ zs.length = xs.length ∧ NumsAt wr base g cap zs ∧ (∀ n, mem zs n = movedTo xs ys (64 * f + b) k n) ∧ w.grownBy wr (some g)) (fun i _ => ys.length - (intOf i).toNat)
  case atStart => exact ⟨0, xs, Nat.zero_le _, rfl, rfl, HX0.out, fun n => (movedTo_zero _ _ _ _).symm, World.grownBy.refl _ _⟩
  case round =>
    obtain ⟨k, zs, hk, rfl, hzl, hz, hm, hg⟩ := hrel
    have HZ := hid hz
    have HM := hid hm
    clear hz hm
    by_cases hlt : k < ys.length
    · obtain ⟨x, hxv⟩ : ∃ x, ys[k]?.getD 0 = x := ⟨_, rfl⟩
      have hyk := HYW.out wr hg
      have hx64 : x < 2 ^ 64 := hyk.2 x (by rw [← hxv]; simp [hlt])
      have hyc := hyk.cell hlt hxv
      have HSU := hid (fun n => movedTo_succ (xs := xs) (f := f) (b := b) hxv n)
      by_cases hx0 : x = 0
      · subst hx0
        clear hyk hxv
        go_wp2
        go_roundw
        case rel => exact ⟨k + 1, zs, by omega, by go_num, hzl, HZ.out, (fun n => by rw [HSU.out, HM.out]; simp), hg⟩
        case measure => simp [intOf]; omega
      · have hroom := HR.out k hlt (by rw [hxv]; exact hx0)
        have hx1 : ((x : Int) != 0) = true := by simpa using (by omega : ¬ (x : Int) = 0)
        obtain ⟨i, hi⟩ : ∃ i, f + k = i := ⟨_, rfl⟩
        obtain ⟨y, hyv⟩ : ∃ y, zs[i]?.getD 0 = y := ⟨_, rfl⟩
        have hz1 := HZ.out.cell (i := i) (by omega) hyv
        have hz2 := HZ.out.frozen i
        have hy64 : y < 2 ^ 64 := HZ.out.2 y (by rw [← hyv]; simp [show i < zs.length by omega])
        have e5 : (i : Int) < (xs.length : Int) := by omega
        have e5' : (0 : Int) ≤ (i : Int) := by omega
        have e6 : (f : Int) + (k : Int) = (i : Int) := by omega
        have e7 : (b : Int) < 64 := by omega
        have e8 : (0 : Int) ≤ (b : Int) := by omega
        have f1 : IntKind.i64.wrap (i : Int) = (i : Int) := IntWalk.i64_in _ (by omega)
        have f2 : IntKind.i64.wrap (b : Int) = (b : Int) := IntWalk.i64_in _ (by omega)
        have f3 : IntKind.u64.wrap ((x : Int) * (2 : Int) ^ b) = ((x <<< b % 2 ^ 64 : Nat) : Int) := by
          show ((x : Int) * (2 : Int) ^ b) % 2 ^ 64 = _
          rw [Nat.shiftLeft_eq]; simp
        have f4 : bits BinOp.or IntKind.u64 (y : Int) ((x <<< b % 2 ^ 64 : Nat) : Int) = ((y ||| x <<< b % 2 ^ 64 : Nat) : Int) :=
          (bits_nat .u64 64 (by decide) (fun n h0 h1 => wrapU_in n h0 h1) y (x <<< b % 2 ^ 64) hy64 (Nat.mod_lt _ (by omega))).2
        obtain ⟨z, hzv⟩ : ∃ z, x <<< b % 2 ^ 64 = z := ⟨_, rfl⟩
        rw [hzv] at f3 f4
        obtain ⟨u, huv⟩ : ∃ u, y ||| z = u := ⟨_, rfl⟩
        rw [huv] at f4
        obtain ⟨c, hc⟩ : ∃ c, 64 - b = c := ⟨_, rfl⟩
        have e9 : (i : Int) + 1 < (xs.length : Int) := by omega
        have e10 : (0 : Int) ≤ (i : Int) + 1 := by omega
        have e11 : (64 : Int) - (b : Int) = (c : Int) := by omega
        have e12 : (0 : Int) ≤ (c : Int) := by omega
        have f5 : IntKind.i64.wrap (c : Int) = (c : Int) := IntWalk.i64_in _ (by omega)
        have HI := hid hi
        have HYV := hid hyv
        have HZV := hid hzv
        have HUV := hid huv
        have HC := hid hc
        clear hi hyv hzv huv hyk hxv hc
        go_wp2
        go_still_tail 11, (by kernel_rfl)
        change wpList _ _ _ _ _ wr.drew
        go_wp2
        have hu64 : u < 2 ^ 64 := by rw [← HUV.out]; exact Nat.or_lt_two_pow hy64 (by rw [← HZV.out]; exact Nat.mod_lt _ (by omega))
        have hz5 : NumsAt (wr.setCell ⟨g, i, none⟩ (.int .u64 (u : Int))).drew base g cap (zs.set i u) := HZ.out.stored hu64
        have hg5 : w.grownBy (wr.setCell ⟨g, i, none⟩ (.int .u64 (u : Int))).drew (some g) := hg.trans (show wr.grownBy (wr.setCell ⟨g, i, none⟩ (.int .u64 (u : Int))).drew (some g) from ⟨rfl, rfl, rfl, by simp, fun k hk hne => Below.heap_setCell wr _ _ k (fun e => hne (by rw [e]))⟩)
        clear hz1 hz2 f3 f4 hyc
        have f7 : IntKind.i64.wrap ((i : Int) + 1) = (i : Int) + 1 := IntWalk.i64_in _ (by omega)
        generalize (wr.setCell ⟨g, i, none⟩ (.int .u64 (u : Int))).drew = W1 at *
        obtain ⟨y2, hy2v⟩ : ∃ y2, (zs.set i u)[i + 1]?.getD 0 = y2 := ⟨_, rfl⟩
        have hil : i + 1 < zs.length := by have := HI.out; omega
        have hz3 := hz5.cell (i := i + 1) (by simpa using hil) hy2v
        have hz4 := hz5.frozen (i + 1)
        have hy264 : y2 < 2 ^ 64 := by
          have := hz5.2 ((zs.set i u)[i + 1]'(by simpa using hil)) (List.getElem_mem _)
          rw [← hy2v, List.getElem?_eq_getElem (by simpa using hil)]; exact this
        have f6 : bits BinOp.or IntKind.u64 (y2 : Int) ((x >>> c : Nat) : Int) = ((y2 ||| x >>> c : Nat) : Int) :=
          (bits_nat .u64 64 (by decide) (fun n h0 h1 => wrapU_in n h0 h1) y2 (x >>> c) hy264 (Nat.lt_of_le_of_lt (Nat.shiftRight_le _ _) hx64)).2
        obtain ⟨z2, hz2v⟩ : ∃ z2, x >>> c = z2 := ⟨_, rfl⟩
        obtain ⟨u2, hu2v⟩ : ∃ u2, y2 ||| z2 = u2 := ⟨_, rfl⟩
        rw [hz2v, hu2v, ← hz2v, show ((x >>> c : Nat) : Int) = (x : Int) / 2 ^ c by rw [Nat.shiftRight_eq_div_pow]; simp] at f6
        have HY2V := hid hy2v
        have HZ2V := hid hz2v
        have HU2V := hid hu2v
        have HZ5 := hid hz5
        clear hy2v hz2v hu2v hz5
        go_still_tail 13, (by kernel_rfl)
        change wpList _ _ _ _ _ W1.drew
        go_wp2
        go_roundw
        case rel =>
          have hu264 : u2 < 2 ^ 64 := by rw [← HU2V.out]; exact Nat.or_lt_two_pow hy264 (by rw [← HZ2V.out]; exact Nat.lt_of_le_of_lt (Nat.shiftRight_le _ _) hx64)
          refine ⟨k + 1, (zs.set i u).set (i + 1) u2, by omega, by go_num, by simp [hzl], NumsAt.stored (W := W1.drew) HZ5.out hu264, fun n => ?_, ?_⟩
          · have hmm := mem_moved (xs := zs) (x := x) (f := f) (b := b) (k := k) hb1 hx64 (by have := HI.out; omega) n
            rw [HI.out, HYV.out, HZV.out, HUV.out, HY2V.out, HC.out, HZ2V.out, HU2V.out] at hmm
            rw [hmm, HSU.out, HM.out]
          · exact hg5.trans ⟨rfl, rfl, rfl, by simp, fun k hk hne => Below.heap_setCell W1.drew _ _ k (fun e => hne (by rw [e]))⟩
        case measure => simp [intOf]; omega
    · obtain rfl : k = ys.length := by omega
      go_wp2
      refine ⟨rfl, .tuple #[], by simp [results, Try.f95, go_sem], rfl, ⟨zs, hzl, HZ.out, fun n => ?_⟩, hg⟩
      rw [HM.out, ← HFD.out, movedTo_all]
end Go.Proofs.Ytlocdkjnefmiaaa
namespace Go.Proofs.Ytlocdkjnefmiaaa
open Go.RowKit
set_option linter.unusedVariables false
set_option linter.unusedSimpArgs false

/-- The numbers below m of a set, ascending. -/
def listTo (xs : List Nat) (m : Nat) : List Nat := (List.range m).filter (mem xs)
theorem listTo_succ (xs : List Nat) (m : Nat) : listTo xs (m + 1) = if mem xs m then listTo xs m ++ [m] else listTo xs m := by
  unfold listTo
  rw [List.range_succ, List.filter_append]
  cases h : mem xs m <;> simp [h]
theorem listTo_len (xs : List Nat) (m : Nat) : (listTo xs m).length ≤ m := by
  have := List.length_filter_le (mem xs) (List.range m)
  simpa [listTo] using this
def cellsN (ns : List Nat) : List Value := ns.map fun n : Nat => Value.int .i64 (n : Int)

theorem and_one_u64 (x b : Nat) (hx : x < 2 ^ 64) : bits BinOp.and IntKind.u64 ((x : Int) / 2 ^ b) 1 = if x.testBit b then 1 else 0 := by
  have h1 : x >>> b < 2 ^ 64 := Nat.lt_of_le_of_lt (Nat.shiftRight_le _ _) hx
  have h := (bits_nat .u64 64 (by decide) (fun n h0 h1 => wrapU_in n h0 h1) (x >>> b) 1 h1 (by omega)).1
  rw [show ((x >>> b : Nat) : Int) = (x : Int) / 2 ^ b by rw [Nat.shiftRight_eq_div_pow]; simp, Nat.and_one_is_mod] at h
  refine h.trans ?_
  rw [Nat.shiftRight_eq_div_pow, Nat.testBit_eq_decide_div_mod_eq]
  by_cases e : x / 2 ^ b % 2 = 1
  · simp [e]
  · have : x / 2 ^ b % 2 = 0 := by omega
    simp [this]

set_option maxRecDepth 100000 in
set_option maxHeartbeats 2000000 in
theorem list_any (xs : List Nat) (hlx : xs.length ≤ 200) (base g cap : Nat) (w : World) (hx : NumsAt w base g cap xs) :
    Calls Try.prog 75 #[.slice (some ⟨g, 0, none⟩) xs.length cap] w fun e w' =>
      ∃ v, e = .returned v ∧ w'.ownsRow w.heap.size 3 1 v (listTo xs (64 * xs.length)).length (cellsN (listTo xs (64 * xs.length))) ∧ Below w.heap.size w w' := by
  obtain ⟨iI, hiI, hzI0, hzI1, hzI2⟩ := info_parts infoI
  have HX := hid hx
  clear hx
  go_enter Try.func75, Try.ntmps75
  go_wp2
  have hw0 : w.ownsRow w.heap.size 3 1 (.slice none 0 0) (listTo xs 0).length (cellsN (listTo xs 0)) := ⟨by simp [listTo, cellsN], .inl ⟨rfl, by simp [listTo]⟩⟩
  have e0 : (64 : Int) * (xs.length : Int) = ((64 * xs.length : Nat) : Int) := by simp
  obtain ⟨N, hN⟩ : ∃ N, 64 * xs.length = N := ⟨_, rfl⟩
  rw [e0, hN]
  have HN := hid hN
  have hN9 : N ≤ 12800 := by omega
  clear hN e0
  go_loopw [3, 8] (fun v i wr => ∃ k : Nat, k ≤ N ∧ i = .int .i64 k ∧ wr.ownsRow w.heap.size 3 1 v (listTo xs k).length (cellsN (listTo xs k)) ∧ Below w.heap.size w wr) (fun _ i _ => N - (intOf i).toNat)
  case atStart => exact ⟨0, Nat.zero_le _, rfl, hw0, Below.refl _ _⟩
  case round =>
    obtain ⟨k, hk, rfl, hrow, hbr⟩ := hrel
    have HROW := hid hrow
    clear hrow hw0
    by_cases hlt : k < N
    · obtain ⟨i, hi⟩ : ∃ i, k / 64 = i := ⟨_, rfl⟩
      obtain ⟨b, hb⟩ : ∃ b, k % 64 = b := ⟨_, rfl⟩
      have hil : i < xs.length := by have := HN.out; omega
      have hb1 : b < 64 := by omega
      obtain ⟨x, hxv⟩ : ∃ x, xs[i]?.getD 0 = x := ⟨_, rfl⟩
      have hxw := HX.out.below (W' := wr) (by rw [show w.heap.size = w.heap.size from rfl]; exact hbr)
      have c1 := hxw.cell hil hxv
      have hx64 : x < 2 ^ 64 := hxw.2 x (by rw [← hxv]; simp [hil])
      have e1 : (k : Int).tdiv 64 = (i : Int) := by rw [Int.tdiv_eq_ediv_of_nonneg (by omega), ← hi]; simp
      have e2 : (k : Int).tmod 64 = (b : Int) := by rw [Int.tmod_eq_emod_of_nonneg (by omega), ← hb]; simp
      have f1 : IntKind.i64.wrap (i : Int) = (i : Int) := IntWalk.i64_in _ (by omega)
      have f2 : IntKind.i64.wrap (b : Int) = (b : Int) := IntWalk.i64_in _ (by omega)
      have e5 : (i : Int) < (xs.length : Int) := by omega
      have e6 : (0 : Int) ≤ (i : Int) := by omega
      have e7 : (b : Int) < 64 := by omega
      have e8 : (0 : Int) ≤ (b : Int) := by omega
      have hmem : mem xs k = x.testBit b := by unfold mem; rw [hi, hb, hxv]
      have e3 := and_one_u64 x b hx64
      rw [← hmem] at e3
      have HS := hid (listTo_succ xs k)
      have hll := listTo_len xs k
      clear hi hb hxv hxw hmem
      cases hm : mem xs k with
      | false =>
        rw [hm, if_neg (by simp)] at e3
        have HM := hid hm
        clear hm
        go_wp2
        go_roundw
        case rel =>
          refine ⟨k + 1, by omega, by go_num, ?_, hbr⟩
          rw [HS.out, HM.out]; exact HROW.out
        case measure => simp [intOf]; omega
      | true =>
        rw [hm, if_pos rfl] at e3
        have HM := hid hm
        clear hm
        have hsz := hbr.size
        go_wp2_with (at_builtin; refine wpList_append_own _ rfl _ _ 35 rfl w.heap.size 3 iI (.int .i64 0) 1 8 Try.underlying35 hiI hzI0 hzI1 hzI2 rfl (by decide) _ _ _ rfl (HROW.out.alloc _) ⟨wr.heap.size, 0, none⟩ 1 1 [.int .i64 (k : Int)] rfl rfl (cell_one_new _ _ _) (by intro u hu; simp at hu; subst hu; rfl) (by unfold maxLen; omega) (by omega) (by simp; omega) ?_; intro v' w3 hown3 hg3 hnil)
        go_roundw
        case rel =>
          have hg1 := ownsRow_block HROW.out
          refine ⟨k + 1, by omega, by go_num, ?_, (b_alloc hbr _).grown hg3 (by simp; omega) (fun r e => hg1 r e)⟩
          rw [HS.out, HM.out, if_pos rfl, List.length_append]
          simpa [cellsN] using hown3
        case measure => simp [intOf]; omega
    · obtain rfl : k = N := by omega
      go_wp2
      go_ret
      exact ⟨_, rfl, by rw [HN.out]; exact HROW.out, hbr⟩
end Go.Proofs.Ytlocdkjnefmiaaa
namespace Go.Proofs.Ytlocdkjnefmiaaa
open Go.RowKit
set_option linter.unusedVariables false
set_option linter.unusedSimpArgs false

/-- The pairs that there can be at the first k temperatures from lo on. -/
def within' (l : Ln) (lo : Int) (k : Nat) (s : Int) (c : Bool) : Bool := (List.range k).any fun j => s == l.rS (lo + j) % (l.W * l.B) && c == l.rL (lo + j)
theorem within'_succ (l : Ln) (lo : Int) (k : Nat) (s : Int) (c : Bool) : within' l lo (k + 1) s c = (within' l lo k s c || (s == l.rS (lo + k) % (l.W * l.B) && c == l.rL (lo + k))) := by
  simp [within', List.range_succ]
theorem within'_zero (l : Ln) (lo : Int) (s : Int) (c : Bool) : within' l lo 0 s c = false := by simp [within']

set_option maxRecDepth 100000 in
set_option maxHeartbeats 2000000 in
theorem roundsWithin_any (l : Ln) (h : l.Ok) (lo hi : Int) (hlo : -500 ≤ lo) (hhi : hi ≤ 1000) (hle : lo ≤ hi) (w : World) :
    Calls Try.prog 73 #[l.val, .agg #[.int .i64 lo, .int .i64 hi]] w fun e w' =>
      ∃ b n, n ≤ 1501 ∧ e = .returned (.map (some b)) ∧ SetAt w' 81 b n (within' l lo (hi - lo + 1).toNat) ∧ w.heap.size ≤ b ∧ Below w.heap.size w w' := by
  obtain ⟨N, hN⟩ : ∃ N, (hi - lo + 1).toNat = N := ⟨_, rfl⟩
  have hN9 : N ≤ 1501 := by omega
  have hNz : hi = lo + N - 1 := by omega
  rw [hN]
  have hb := h.beats
  have hb' := h.beats1
  have hmm := @run_makeMap Try.prog
  have HNZ := hid hNz
  clear hNz hN
  go_enter Try.func73, Try.ntmps73
  go_wp2
  have hc0 : Cel (((w.alloc (.cells #[.int .i64 l.W, .int .i64 l.B, .int .i64 l.P, .int .i64 l.D, .int .i64 l.S, .int .i64 l.N] 25)).alloc (.cells #[.int .i64 lo, .int .i64 hi] 31)).alloc (.map #[] 0)) (w.heap.size + 1) 1 (.int .i64 hi) := by
    have := (Cel.new (w.alloc (.cells #[.int .i64 l.W, .int .i64 l.B, .int .i64 l.P, .int .i64 l.D, .int .i64 l.S, .int .i64 l.N] 25)) #[.int .i64 lo, .int .i64 hi] 31 1 _ rfl).alloc (.map #[] 0)
    simpa using this
  have hs0 := SetAt.made ((w.alloc (.cells #[.int .i64 l.W, .int .i64 l.B, .int .i64 l.P, .int .i64 l.D, .int .i64 l.S, .int .i64 l.N] 25)).alloc (.cells #[.int .i64 lo, .int .i64 hi] 31)) 81
  simp only [World.size_alloc] at hs0
  have hl0 := lnAt_call (lnAt_new' l w) (b_alloc (b_alloc (Below.refl _ _) (.cells #[.int .i64 lo, .int .i64 hi] 31)) (.map #[] 0))
  go_loopw [6] (fun i wr => ∃ k : Nat, k ≤ N ∧ i = .int .i64 (lo + k) ∧ SetAt wr 81 (w.heap.size + 1 + 1) k (within' l lo k) ∧ LnAt w.heap.size l wr ∧ Cel wr (w.heap.size + 1) 1 (.int .i64 hi) ∧ Below w.heap.size w wr) (fun i _ => N - (intOf i - lo).toNat)
  case atStart => exact ⟨0, Nat.zero_le _, by simp, hs0.congr (fun s c => (within'_zero l lo s c).symm), hl0, hc0, by (repeat (first | assumption | exact Below.refl _ _ | refine b_alloc ?_ _ | refine Below.drew ?_ | refine b_drewN ?_ _ | refine Below.setCell ?_ (by first | omega | (simp; done) | (simp; omega)) _ | refine b_call (by assumption) ?_))⟩
  case round =>
    obtain ⟨k, hk, rfl, hset, hln, hcel, hbr⟩ := hrel
    clear hc0 hs0 hl0
    have HSET := hid hset
    have HCEL := hid hcel
    have HLN := hid hln
    obtain ⟨d0, d1, d2, d3, d4, d5⟩ := id hln
    obtain ⟨q1, q2⟩ := id hcel
    clear hset hln hcel
    by_cases hlt : k < N
    · have hle1 : lo + (k : Int) ≤ hi := by have := HNZ.out; omega
      have hR := fun W => roundAt_any l h (lo + k) (by have := HNZ.out; omega) W
      rw [round_eq] at hR
      have HR := hid hR
      obtain ⟨s, hs⟩ : ∃ s, l.rS (lo + k) = s := ⟨_, rfl⟩
      obtain ⟨c, hc⟩ : ∃ c, l.rL (lo + k) = c := ⟨_, rfl⟩
      rw [hs, hc] at HR
      have HS := hid hs
      have HC := hid hc
      clear hs hc hR
      go_wp2_with (go_at_call 58; refine (HR.out _).mono ?_; rintro e w1 ⟨rfl, hb1⟩; have B1 := hid hb1; have hs1 := hb1.size; clear hb1)
      have K0 := Cel.new w1 #[.int .i64 s, .bool c] 81 0 _ rfl
      have K1 := Cel.new w1 #[.int .i64 s, .bool c] 81 1 _ rfl
      have hbr2 : Below w.heap.size w (w1.alloc (.cells #[.int .i64 s, .bool c] 81)) := b_alloc (b_call B1.out hbr) _
      have hln2 : LnAt w.heap.size l (w1.alloc (.cells #[.int .i64 s, .bool c] 81)) := lnAt_call HLN.out (b_alloc B1.out _)
      have hcel2 := (HCEL.out.call B1.out).alloc (.cells #[.int .i64 s, .bool c] 81)
      have hset2 := (HSET.out.below B1.out).alloc (.cells #[.int .i64 s, .bool c] 81)
      have hBs := HSET.out.lt
      clear d0 d1 d2 d3 d4 d5 q1 q2 hbr
      obtain ⟨B, hB⟩ : ∃ B, w1.heap.size = B := ⟨_, rfl⟩
      rw [hB] at K0 K1 ⊢
      have hBl : w.heap.size + 1 + 1 < B := by omega
      generalize w1.alloc (.cells #[.int .i64 s, .bool c] 81) = W2 at *
      clear hB hs1 B1 HCEL HLN HSET
      obtain ⟨d0, d1, d2, d3, d4, d5⟩ := id hln2
      obtain ⟨q1, q2⟩ := id K0
      obtain ⟨q3, q4⟩ := id K1
      have HLN := hid hln2
      have HCEL := hid hcel2
      have HSET := hid hset2
      have HBR := hid hbr2
      have hsz := hbr2.size
      have hB2 := K0.lt
      clear hln2 hcel2 hset2 hbr2
      have HMO := hid (fun W => modulo_any s (l.W * l.B) W (by omega) (by omega))
      go_region_with (first
        | (go_at_call 71; refine (beats_any l h _).mono ?_; rintro e w3 ⟨rfl, hb3⟩; have r0 := (Cel.call (b := B) (o := 0) (v := .int .i64 s) (by exact K0) hb3).1; have r1 := (Cel.call (b := B) (o := 0) (v := .int .i64 s) (by exact K0) hb3).2; have HB3 := hid hb3; clear hb3)
        | (go_at_call 77; refine (HMO.out _).mono ?_; rintro e w4 ⟨rfl, rfl⟩))
      all_goals
        have hb3 : Below W2.heap.size W2 w3 := ⟨HB3.out.os, HB3.out.tape, HB3.out.output, HB3.out.size, HB3.out.block⟩
        have hsz3 := hb3.size
        obtain ⟨v, hv⟩ : ∃ v, s % (l.W * l.B) = v := ⟨_, rfl⟩
        rw [hv]
        have hg3 := grownBy_setCell' w3 B (.int .i64 v)
        have C0 := World.cell?_setCell_same' w3 ⟨B, 0, none⟩ (.int .i64 v) (by rw [r0]; rfl)
        have C1 : (w3.setCell ⟨B, 0, none⟩ (.int .i64 v)).cell? ⟨B, 1, none⟩ = some (.bool c) :=
          (World.cell?_setCell_other w3 ⟨B, 0, none⟩ ⟨B, 1, none⟩ (.int .i64 v) (by simp)).trans (Cel.call K1 hb3).1
        have hset3 := (HSET.out.below hb3).kept hg3 (by simp; omega)
        have hln3 := lnAt_other (lnAt_call HLN.out hb3) (show w.heap.size ≠ B by omega) (.int .i64 v)
        have hcel3 := (HCEL.out.call hb3).set (u := .int .i64 v) (b' := B) (o' := 0) (by omega)
        have hbr3 : Below w.heap.size w (w3.setCell ⟨B, 0, none⟩ (.int .i64 v)) := (b_call hb3 HBR.out).setCell (by simp; omega) _
        have hsz4 := hbr3.size
        clear r0 r1 d0 d1 d2 d3 d4 d5 q1 q2 q3 q4 hg3 HB3 hb3
        generalize w3.setCell ⟨B, 0, none⟩ (.int .i64 v) = W4 at *
        have HV := hid hv
        clear hv
        go_wp2_with (at_mapUpdate; refine wpList_set_store _ rfl _ _ _ 105 rfl pairR Try.underlying105 _ _ _ rfl hset3 (by unfold maxLen; omega) v c rfl rfl (WalkArith.wf_i64 (by rw [← HV.out]; have := Int.emod_nonneg s (show l.W * l.B ≠ 0 by omega); have := Int.emod_lt_of_pos s (show 0 < l.W * l.B by omega); omega)) ?_; intro W5 hset5 hg5)
        refine ⟨⟨k + 1, by omega, by go_num, ?_, ?_, hcel3.grown hg5 (fun r e => by cases e; omega), hbr3.grown hg5 hsz4 (fun r e => by cases e; omega)⟩, ?_⟩
        · exact hset5.congr fun s' c' => by rw [within'_succ, HS.out, HC.out, HV.out]
        · obtain ⟨a0, a1, a2, a3, a4, a5⟩ := hln3
          have e := hg5.block w.heap.size (by have := hset3.lt; omega) (by simp; omega)
          exact ⟨(World.cell?_of_block (a := ⟨w.heap.size, 0, none⟩) e).trans a0, (World.cell?_of_block (a := ⟨w.heap.size, 1, none⟩) e).trans a1, (World.cell?_of_block (a := ⟨w.heap.size, 2, none⟩) e).trans a2, (World.cell?_of_block (a := ⟨w.heap.size, 3, none⟩) e).trans a3, (World.cell?_of_block (a := ⟨w.heap.size, 4, none⟩) e).trans a4, (World.cell?_of_block (a := ⟨w.heap.size, 5, none⟩) e).trans a5⟩
        · simp only [intOf]; omega
    · obtain rfl : k = N := by omega
      have hle1 : ¬ lo + (k : Int) ≤ hi := by have := HNZ.out; omega
      go_wp2
      go_ret
      exact ⟨_, k, by omega, rfl, HSET.out, by omega, hbr⟩
end Go.Proofs.Ytlocdkjnefmiaaa
namespace Go.Proofs.Ytlocdkjnefmiaaa
open Go.RowKit
set_option linter.unusedVariables false
set_option linter.unusedSimpArgs false

theorem mem_of_word {ys : List Nat} {k : Nat} (hne : ys[k]?.getD 0 ≠ 0) (h64 : ys[k]?.getD 0 < 2 ^ 64) : ∃ m, m / 64 = k ∧ mem ys m = true := by
  obtain ⟨j, hj⟩ := Nat.exists_testBit_of_ne_zero hne
  have hj64 : j < 64 := by
    by_cases h : j < 64
    · exact h
    · rw [bit_high h64 (by omega)] at hj; cases hj
  refine ⟨64 * k + j, by omega, ?_⟩
  unfold mem
  rw [show (64 * k + j) / 64 = k by omega, show (64 * k + j) % 64 = j by omega]; exact hj

theorem NumsAt.low {W : World} {base base' g cap : Nat} {xs : List Nat} (h : NumsAt W base g cap xs) (hb : base' ≤ base) : NumsAt W base' g cap xs := ⟨ownsRow_low h.1 hb, h.2⟩
theorem IntsAt.but {W W' : World} {a : Option Addr} {xs : List Int} {r : Nat} (h : IntsAt W a xs) (hg : W.grownBy W' (some r)) (hne : ∀ b off, a = some ⟨b, off, none⟩ → b ≠ r) : IntsAt W' a xs := fun j hj => by
  obtain ⟨b, off, e, hc⟩ := h j hj
  exact ⟨b, off, e, (World.cell?_of_block (a := ⟨b, off + j, none⟩) (hg.block b (World.block_lt_of_cell? _ _ hc) (by simpa using hne b off e))).trans hc⟩
/-- A row of numbers is a slice that holds them. -/
theorem rowInts {W : World} {base n : Nat} {v : Value} {ns : List Nat} (h : W.ownsRow base 3 1 v n (cellsN ns)) : ∃ a c, v = .slice a n c ∧ IntsAt W a (ns.map fun k : Nat => (k : Int)) ∧ ∀ b off, a = some ⟨b, off, none⟩ → base ≤ b := by
  have hn : ns.length = n := by have := h.1; simpa [cellsN] using this
  rcases h.2 with ⟨rfl, rfl⟩ | ⟨g, c, cur, rfl, _⟩
  · exact ⟨none, 0, rfl, (fun j hj => by simp at hj; omega), fun b off e => by cases e⟩
  · refine ⟨some ⟨g, 0, none⟩, c, rfl, fun j hj => ⟨g, 0, rfl, ?_⟩, fun b off e => by cases e; exact (h.lt g rfl).1⟩
    have hj' : j < ns.length := by simpa using hj
    rw [Nat.zero_add]
    refine (h.cellAt j (by omega)).trans ?_
    simp [cellsN, hj']
/-- The sums so far: those with a shift that is no longer to come. -/
def SumsTo (ys : List Nat) (S L : Int → Bool → Bool) (xs : List Nat) : Prop :=
  ∀ n, mem xs n = true ↔ ∃ s m : Nat, S s false = true ∧ L s false = false ∧ mem ys m = true ∧ n = m + s
theorem SumsTo.skip {ys xs : List Nat} {S L : Int → Bool → Bool} (h : SumsTo ys S L xs) (s0 : Int) : SumsTo ys S (fun s c => L s c && !(s == s0 && c == true)) xs := fun n => by
  rw [h n]
  constructor
  · rintro ⟨s, m, a, b, r⟩; exact ⟨s, m, a, by simp [b], r⟩
  · rintro ⟨s, m, a, b, r⟩; exact ⟨s, m, a, by simpa using b, r⟩
theorem SumsTo.step {ys xs zs : List Nat} {S L : Int → Bool → Bool} {d : Nat} (h : SumsTo ys S L xs) (hS : S d false = true) (hz : ∀ n, mem zs n = (mem xs n || (decide (d ≤ n) && mem ys (n - d)))) :
    SumsTo ys S (fun s c => L s c && !(s == (d : Int) && c == false)) zs := fun n => by
  rw [hz n, Bool.or_eq_true, h n, Bool.and_eq_true, decide_eq_true_eq]
  constructor
  · rintro (⟨s, m, a, b, r⟩ | ⟨h1, h2⟩)
    · exact ⟨s, m, a, by simp [b], r⟩
    · exact ⟨d, n - d, hS, by simp, h2, by omega⟩
  · rintro ⟨s, m, a, b, c, e⟩
    by_cases hs : s = d
    · subst hs; exact .inr ⟨by omega, by rw [show n - s = m by omega]; exact c⟩
    · refine .inl ⟨s, m, a, ?_, c, e⟩
      have : ((s : Int) == (d : Int)) = false := by
        cases hc : ((s : Int) == (d : Int))
        · rfl
        · have := eq_of_beq hc; exact absurd (by omega : s = d) hs
      simpa [this] using b

set_option maxRecDepth 100000 in
set_option maxHeartbeats 2000000 in
theorem laterBy_any (ys : List Nat) (nb : Nat) (h1 : 1 ≤ nb) (h2 : nb ≤ 2560) (hly : ys.length = nb / 64 + 2) (hym : ∀ m, mem ys m = true → m < nb) (S : Int → Bool → Bool) (hS : ∀ s c, S s c = true → 0 ≤ s ∧ s < nb) (base gy cy b n : Nat) (w : World)
    (hy : NumsAt w base gy cy ys) (hs : SetAt w 81 b n S) :
    Calls Try.prog 74 #[.slice (some ⟨gy, 0, none⟩) ys.length cy, .map (some b), .int .i64 nb] w fun e w' =>
      ∃ g c zs, zs.length = nb / 64 + 2 ∧ e = .returned (.slice (some ⟨g, 0, none⟩) zs.length c) ∧ NumsAt w' w.heap.size g c zs ∧ (∀ i, mem zs i = true ↔ ∃ s m : Nat, S s false = true ∧ mem ys m = true ∧ i = (m + s) % nb) ∧ Below w.heap.size w w' := by
  have HY := hid hy
  have HS := hid hs
  clear hy hs
  have hnb := numbersBelow_any (2 * nb) (by omega)
  have hnb' := numbersBelow_any nb (by omega)
  have e0 : ((2 * nb : Nat) : Int) = 2 * (nb : Int) := by simp
  rw [e0] at hnb
  obtain ⟨N2, hN2⟩ : ∃ N2, 2 * nb / 64 + 2 = N2 := ⟨_, rfl⟩
  obtain ⟨N1, hN1⟩ : ∃ N1, nb / 64 + 2 = N1 := ⟨_, rfl⟩
  rw [hN2] at hnb
  rw [hN1] at hnb' hly ⊢
  have HNB := hid hnb
  have HNB' := hid hnb'
  have HN2 := hid hN2
  have HN1 := hid hN1
  have HLY := hid hly
  have HYM := hid hym
  have HSS := hid hS
  clear hnb hnb' e0 hN2 hN1 hly hym hS
  go_enter Try.func74, Try.ntmps74
  go_wp2_with (first
    | (go_at_call 70; refine (HNB.out _).mono ?_; rintro e w1 ⟨g, cap, rfl, hn1, hb1⟩; have hs1 := HS.out.below hb1)
    | (at_range; refine wpList_set_range _ rfl _ 105 rfl pairR Try.underlying105 b n S rfl hs1 ?_; intro w2 cnt hrg2 hg2 hsz2))
  go_frame
  have hnl := hn1.lt
  have hbl := HS.out.lt
  have hgl := HY.out.lt
  have hn2 := hn1.kept hg2 (by simp)
  have hb2 : Below w.heap.size w w2 := b_call (below_of_grown hg2) hb1
  have hsz1 := hb1.size
  obtain ⟨r, hr⟩ : ∃ r, w1.heap.size = r := ⟨_, rfl⟩
  rw [hr] at hrg2 hnl hsz1 ⊢
  clear hs1 hn1 hb1 hg2 hsz2 hr
  have hz0 : SumsTo ys S S (List.replicate N2 0) := fun i => by
    rw [mem_zero]
    constructor
    · intro h; cases h
    · rintro ⟨s, m, a, b, _⟩; rw [a] at b; cases b
  go_loopw [8] (fun _ wr => ∃ (L : Int → Bool → Bool) (cnt : Nat) (xs : List Nat), RangeAt wr 81 b r n S L cnt ∧ xs.length = N2 ∧ NumsAt wr w.heap.size g cap xs ∧ SumsTo ys S L xs ∧ Below w.heap.size w wr) (fun _ wr => wr.rangeLeft b r)
  case atStart => exact ⟨S, cnt, _, hrg2, by simp, hn2, hz0, hb2⟩
  case round =>
    obtain ⟨L, cnt', xs, hrg, hxl, hx, hsum, hbr⟩ := hrel
    clear hrg2 hn2 hb2 hz0
    have HX := hid hx
    have HXL := hid hxl
    have HSUM := hid hsum
    clear hx hxl hsum
    go_wp2_with (at_next; refine wpList_set_next _ rfl _ rfl pairR b r n S L cnt' rfl hrg ?_ ?_; rotate_left; (intro s c W2 cnt2 hsw hLs hSs hrg2 hlt2 hgr2 hsz3 hen; have HRG2 := hid hrg2; have HLS := hid hLs; have HS2 := hid hSs; clear hrg2 hLs hSs); rotate_left; (intro hc0 hl0; have HL0 := hid hl0; clear hl0))
    rotate_left
    · obtain rfl : c = false := by have hcf : (!c) = true := by assumption
                                   simpa using hcf
      have hd := HSS.out s false HS2.out
      obtain ⟨d, rfl⟩ : ∃ d : Nat, s = d := ⟨s.toNat, by omega⟩
      have hbr2 : Below w.heap.size w (W2.alloc (.cells #[.int .i64 d, .bool false] 81)) := b_alloc (hbr.grown hgr2 hbr.size (fun k e => by cases e; omega)) _
      have hx2 := (HX.out.kept hgr2 (by simp; omega)).kept (World.grownBy_alloc W2 (.cells #[.int .i64 d, .bool false] 81) none) (by simp)
      have hy2 := HY.out.below hbr2
      have hroom : ∀ k, k < ys.length → ys[k]?.getD 0 ≠ 0 → d / 64 + k + 1 < xs.length := fun k hk hne => by
        obtain ⟨m, hm, hm1⟩ := mem_of_word hne (HY.out.2 _ (by simp [hk]))
        have := HYM.out m hm1
        have := HXL.out
        have := HN2.out
        omega
      have hl1 := HXL.out
      have hl2 := HN2.out
      have hl3 := HLY.out
      have hl4 := HN1.out
      have hC := addMoved_any xs ys d (by omega) (by omega) (by omega) hroom w.heap.size base g cap gy cy (by omega) _ hx2 hy2
      rw [HXL.out] at hC
      clear hl1 hl2 hl3 hl4 hroom hx2 hy2 hen
      refine hC.mono ?_
      rintro e W3 ⟨rfl, ⟨zs, hzl, hz, hm⟩, hg3⟩
      have hrg3 := (HRG2.out.kept (World.grownBy_alloc W2 (.cells #[.int .i64 d, .bool false] 81) none) (by simp) (by simp)).kept hg3 (by simp; omega) (by simp; omega)
      have hsum3 := HSUM.out.step HS2.out hm
      have hbr3 : Below w.heap.size w W3 := hbr2.grown hg3 hbr2.size (fun k e => by cases e; omega)
      have HRG3 := hid hrg3
      have HM := hid hm
      have HZL := hid hzl
      have HSUM3 := hid hsum3
      clear hrg3 hm hzl hsum3 hC
      go_wp2
      refine ⟨⟨_, cnt2, zs, HRG3.out, HZL.out, hz, HSUM3.out, hbr3⟩, ?_⟩
      rw [HRG3.out.left, hrg.left]; omega
    · obtain rfl : c = true := by have hcf : (!c) = false := by assumption
                                  simpa using hcf
      refine ⟨⟨_, cnt2, xs, HRG2.out.kept (World.grownBy_alloc W2 _ none) (by simp) (by simp), HXL.out, (HX.out.kept hgr2 (by simp; omega)).kept (World.grownBy_alloc W2 _ none) (by simp), HSUM.out.skip s, b_alloc (hbr.grown hgr2 hbr.size (fun k e => by cases e; omega)) _⟩, ?_⟩
      rw [(HRG2.out.kept (World.grownBy_alloc W2 _ none) (by simp) (by simp)).left, hrg.left]; omega
    · refine (HNB'.out wr).mono ?_
      rintro e W4 ⟨ga, ca, rfl, hna, hba⟩
      have hxl2 := HX.out.below hba
      have hsz4 := hbr.size
      have hna2 := hna.low hsz4
      have hgaw := hna.lt
      have hbr4 := b_call hba hbr
      have hl1 := HXL.out
      have hl2 := HN2.out
      have hL := list_any xs (by omega) w.heap.size g cap W4 hxl2
      rw [HXL.out] at hL
      have HLI := hid hL
      have HNA := hid hna2
      clear hL hna hna2 hxl2 hl1 hl2
      go_wp2_with (go_at_call 75; refine HLI.out.mono ?_; rintro e W5 ⟨v, rfl, hv, hb5⟩; obtain ⟨av, cv, rfl, hiv, hav⟩ := rowInts hv; have HIV := hid hiv; have HAV := hid hav; have HB5 := hid hb5; clear hv hb5 hiv hav)
      obtain ⟨ns, hns⟩ : ∃ ns, listTo xs (64 * N2) = ns := ⟨_, rfl⟩
      rw [hns] at HIV ⊢
      have HNS := hid hns
      have hnl2 : ns.length ≤ 64 * N2 := by rw [← hns]; exact listTo_len _ _
      have hN2b : N2 ≤ 200 := by have := HN2.out; omega
      have hN1b : nb < 64 * N1 := by have := HN1.out; omega
      have h0 : NumsAt W5 w.heap.size ga ca (List.replicate N1 0) := HNA.out.below HB5.out
      have hbr5 := b_call HB5.out hbr4
      clear hns
      go_loopw [34] (fun i wr => ∃ (k : Nat) (zs : List Nat), k ≤ ns.length ∧ i = .int .i64 k ∧ zs.length = N1 ∧ NumsAt wr w.heap.size ga ca zs ∧ (∀ q, mem zs q = true ↔ ∃ j, j < k ∧ q = (ns[j]?.getD 0) % nb) ∧ IntsAt wr av (ns.map fun k : Nat => (k : Int)) ∧ Below w.heap.size w wr) (fun i _ => ns.length - (intOf i).toNat)
      case atStart =>
        refine ⟨0, _, Nat.zero_le _, rfl, by simp, h0, fun q => ?_, HIV.out, hbr5⟩
        rw [mem_zero]
        exact ⟨(fun h => by cases h), (fun ⟨j, hj, _⟩ => by omega)⟩
      case round =>
        obtain ⟨k, zs, hk, rfl, hzl, hz, hm, hi, hbr6⟩ := hrel
        have HZ := hid hz
        have HM := hid hm
        have HI := hid hi
        have HZL := hid hzl
        clear hz hm hi hzl h0 hbr5
        by_cases hlt : k < ns.length
        · obtain ⟨b6, off6, rfl, hc6⟩ := HI.out k (by simpa using hlt)
          obtain ⟨m, hmv⟩ : ∃ m, ns[k]?.getD 0 = m := ⟨_, rfl⟩
          have hx6 : (ns.map fun k : Nat => (k : Int))[k]?.getD 0 = (m : Int) := by rw [← hmv]; simp [hlt]
          rw [hx6] at hc6
          have e1 : (m : Int).tmod (nb : Int) = ((m % nb : Nat) : Int) := by rw [Int.tmod_eq_emod_of_nonneg (by omega)]; simp
          have hq := Nat.mod_lt m (show 0 < nb by omega)
          obtain ⟨q, hqv⟩ : ∃ q, m % nb = q := ⟨_, rfl⟩
          rw [hqv] at e1 hq
          have e2 : ¬ (nb : Int) = 0 := by omega
          have e3 : ¬ nb = 0 := by omega
          have e4 : IntKind.i64.wrap (q : Int) = (q : Int) := IntWalk.i64_in _ (by omega)
          have hA := add_any zs q (by have := HZL.out; omega) (by omega) w.heap.size ga ca _ HZ.out
          rw [HZL.out] at hA
          have HA := hid hA
          have HMV := hid hmv
          have HQV := hid hqv
          clear hA hmv hqv hx6
          go_wp2_with (go_at_call 72; refine HA.out.mono ?_; rintro e W7 ⟨rfl, hz7, hg7⟩; have HZ7 := hid hz7; have HG7 := hid hg7; clear hz7 hg7)
          go_roundw
          case rel =>
            have hg7 := HG7.out
            refine ⟨k + 1, _, by omega, by go_num, by simp [HZL.out], HZ7.out, fun q' => ?_, HI.out.but hg7 (fun b off e => by have := HAV.out b off e; omega), hbr6.grown hg7 hbr6.size (fun r e => by cases e; omega)⟩
            rw [mem_add (by have := HZL.out; omega), Bool.or_eq_true, HM.out q', beq_iff_eq]
            constructor
            · rintro (⟨j, hj, e⟩ | rfl)
              · exact ⟨j, by omega, e⟩
              · exact ⟨k, by omega, by rw [HMV.out, HQV.out]⟩
            · rintro ⟨j, hj, e⟩
              by_cases h : j = k
              · subst h; rw [HMV.out, HQV.out] at e; exact .inr e
              · exact .inl ⟨j, by omega, e⟩
          case measure => simp [intOf]; omega
        · obtain rfl : k = ns.length := by omega
          go_wp2
          go_ret
          refine ⟨ga, ca, zs, HZL.out, by rw [HZL.out]; rfl, HZ.out, fun i => ?_, hbr6⟩
          rw [HM.out i]
          have hin : ∀ m, (∃ j, j < ns.length ∧ m = ns[j]?.getD 0) ↔ mem xs m = true := fun m => by
            rw [← HNS.out]
            constructor
            · rintro ⟨j, hj, rfl⟩
              have := List.getElem_mem hj
              rw [List.getElem?_eq_getElem hj]
              exact (List.mem_filter.1 this).2
            · intro h
              have hlt : m < 64 * N2 := by
                by_cases hh : m < 64 * N2
                · exact hh
                · unfold mem at h
                  rw [List.getElem?_eq_none (by have := HXL.out; omega)] at h
                  simp at h
              obtain ⟨j, hj, e⟩ := List.mem_iff_getElem.1 (List.mem_filter.2 ⟨List.mem_range.2 hlt, h⟩ : m ∈ listTo xs (64 * N2))
              exact ⟨j, hj, by rw [List.getElem?_eq_getElem (show j < (listTo xs (64 * N2)).length from hj)]; exact e.symm⟩
          constructor
          · rintro ⟨j, hj, e⟩
            obtain ⟨s, m, a, _, c, e2⟩ := (HSUM.out _).1 ((hin _).1 ⟨j, hj, rfl⟩)
            exact ⟨s, m, a, c, by rw [e, e2]⟩
          · rintro ⟨s, m, a, c, e⟩
            have hw : (Lit.int .i64 (s : Int)).wf = true := WalkArith.wf_i64 (by have := HSS.out s false a; omega)
            obtain ⟨j, hj, e2⟩ := (hin (m + s)).2 ((HSUM.out _).2 ⟨s, m, a, HL0.out s false hw, c, rfl⟩)
            exact ⟨j, hj, by rw [← e2]; exact e⟩
end Go.Proofs.Ytlocdkjnefmiaaa
namespace Go.Proofs.Ytlocdkjnefmiaaa
open Go.RowKit
set_option linter.unusedVariables false
set_option linter.unusedSimpArgs false

abbrev spanV (s : Int × Int) : Value := .agg #[.int .i64 s.1, .int .i64 s.2]
/-- The error of a span of temperatures. -/
def spanErr (s : Int × Int) : Int := if Temp s.1 ∧ Temp s.2 then (if s.1 ≤ s.2 then 0 else 2) else 7

set_option maxHeartbeats 1000000 in
theorem tempsError_any (s : Int × Int) (w : World) : Calls Try.prog 94 #[spanV s] w (Ret w (.int .i64 (spanErr s))) := by
  obtain ⟨lo, hi⟩ := s
  go_enter Try.func94, Try.ntmps94
  go_wp2_with (go_at_call 57; refine (isTemp_any _ _).mono ?_; rintro e w1 ⟨rfl, rfl⟩)
  all_goals
    go_ret
    refine ⟨?_, by (repeat (first | assumption | exact Below.refl _ _ | refine b_alloc ?_ _ | refine Below.drew ?_ | refine b_drewN ?_ _ | refine Below.setCell ?_ (by first | omega | (simp; done) | (simp; omega)) _ | refine b_call (by assumption) ?_))⟩
    show Ending.returned (.int .i64 _) = _
    simp_all [spanErr, Temp]
    try omega

/-- The slice that begins at a holds the spans ss. -/
def SpansAt (W : World) (a : Option Addr) (ss : List (Int × Int)) : Prop :=
  ∀ j, j < ss.length → ∃ b off, a = some ⟨b, off, none⟩ ∧ W.cell? ⟨b, off + j * 2, none⟩ = some (.int .i64 (ss[j]?.getD (0, 0)).1) ∧ W.cell? ⟨b, off + j * 2 + 1, none⟩ = some (.int .i64 (ss[j]?.getD (0, 0)).2)
theorem SpansAt.below {W W' : World} {a : Option Addr} {ss : List (Int × Int)} (h : SpansAt W a ss) (hb : Below W.heap.size W W') : SpansAt W' a ss := fun j hj => by
  obtain ⟨b, off, e, h1, h2⟩ := h j hj
  exact ⟨b, off, e, cell_later hb h1, cell_later hb h2⟩
/-- The first error of spans. -/
def spansErr : List (Int × Int) → Int
  | [] => 0
  | s :: r => if spanErr s = 0 then spansErr r else spanErr s
def canErr (l : Ln) (ss : List (Int × Int)) : Int := if l.Ok then (if ss.length ≤ 60 then spansErr ss else 3) else 7
theorem spansErr_drop {ss : List (Int × Int)} {k : Nat} (hk : k < ss.length) : spansErr (ss.drop k) = if spanErr (ss[k]?.getD (0, 0)) = 0 then spansErr (ss.drop (k + 1)) else spanErr (ss[k]?.getD (0, 0)) := by
  rw [List.drop_eq_getElem_cons hk, spansErr]; simp [hk]

set_option maxRecDepth 100000 in
set_option maxHeartbeats 1000000 in
theorem canError_ok (l : Ln) (h : l.Ok) (a : Option Addr) (ca : Nat) (ss : List (Int × Int)) (hlt : ss.length ≤ 60) (w : World) (hx : SpansAt w a ss) :
    Calls Try.prog 69 #[l.val, .slice a ss.length ca] w (Ret w (.int .i64 (spansErr ss))) := by
  have HX := hid hx
  clear hx
  have hl2 : ¬ (60 : Int) < (ss.length : Int) := by omega
  go_enter Try.func69, Try.ntmps69
  go_wp2_with (go_at_call 25; refine (Check_ok l h _).mono ?_; rintro e w1 ⟨rfl, hb1⟩; have hB1 := hid (show Below w.heap.size w w1 by (repeat (first | assumption | exact Below.refl _ _ | refine b_alloc ?_ _ | refine Below.drew ?_ | refine b_drewN ?_ _ | refine Below.setCell ?_ (by first | omega | (simp; done) | (simp; omega)) _ | refine b_call (by assumption) ?_))); clear hb1)
  go_loopw [19] (fun i wr => ∃ k : Nat, k ≤ ss.length ∧ i = .int .i64 k ∧ spansErr (ss.drop k) = spansErr ss ∧ Below w.heap.size w wr) (fun i _ => ss.length - (intOf i).toNat)
  case atStart => exact ⟨0, Nat.zero_le _, rfl, rfl, hB1.out⟩
  case round =>
    obtain ⟨k, hk, rfl, hd, hbr⟩ := hrel
    have HD := hid hd
    clear hd
    by_cases hlt : k < ss.length
    · obtain ⟨b, off, rfl, hc1, hc2⟩ := (HX.out.below hbr) k hlt
      obtain ⟨s, hs⟩ : ∃ s, ss[k]?.getD (0, 0) = s := ⟨_, rfl⟩
      have hdr := spansErr_drop hlt
      rw [HD.out, hs] at hdr
      rw [hs] at hc1 hc2
      obtain ⟨lo, hi⟩ := s
      have HS := hid hs
      have HDR := hid hdr
      clear hs hdr
      obtain ⟨er, her⟩ : ∃ er, spanErr (lo, hi) = er := ⟨_, rfl⟩
      have HER := hid her
      clear her
      by_cases h0 : er = 0
      · subst h0
        go_wp2_with (go_at_call 94; refine (tempsError_any (lo, hi) _).mono ?_; rintro e w3 ⟨rfl, hb3⟩; rw [HER.out]; have HB3 := hid hb3; clear hb3)
        refine ⟨⟨k + 1, by omega, by go_num, ?_, b_call HB3.out (b_alloc hbr _)⟩, by simp [intOf]; omega⟩
        have := HDR.out; rw [HER.out, if_pos rfl] at this; exact this.symm
      · have h0' : (er != 0) = true := by simpa using h0
        go_wp2_with (go_at_call 94; refine (tempsError_any (lo, hi) _).mono ?_; rintro e w3 ⟨rfl, hb3⟩; rw [HER.out]; have HB3 := hid hb3; clear hb3)
        go_ret
        refine ⟨?_, b_call HB3.out (b_alloc hbr _)⟩
        have := HDR.out; rw [HER.out, if_neg h0] at this; rw [this]; rfl
    · obtain rfl : k = ss.length := by omega
      go_wp2
      go_ret
      exact ⟨by rw [← HD.out, List.drop_length]; rfl, hbr⟩

set_option maxHeartbeats 1000000 in
theorem canError_any (l : Ln) (a : Option Addr) (ca : Nat) (ss : List (Int × Int)) (hn : Len ss.length) (w : World) (hx : SpansAt w a ss) :
    Calls Try.prog 69 #[l.val, .slice a ss.length ca] w (Ret w (.int .i64 (canErr l ss))) := by
  unfold canErr
  by_cases h : l.Ok
  · rw [if_pos h]
    by_cases hlt : ss.length ≤ 60
    · rw [if_pos hlt]; exact canError_ok l h a ca ss hlt w hx
    · rw [if_neg hlt]
      have hl2 : (60 : Int) < (ss.length : Int) := by omega
      go_enter Try.func69, Try.ntmps69
      go_wp2_with (go_at_call 25; refine (Check_ok l h _).mono ?_; rintro e w1 ⟨rfl, hb1⟩; have hB1 := hid (show Below w.heap.size w w1 by (repeat (first | assumption | exact Below.refl _ _ | refine b_alloc ?_ _ | refine Below.drew ?_ | refine b_drewN ?_ _ | refine Below.setCell ?_ (by first | omega | (simp; done) | (simp; omega)) _ | refine b_call (by assumption) ?_))); clear hb1)
      go_ret
      exact ⟨rfl, by (repeat (first | assumption | exact Below.refl _ _ | refine b_alloc ?_ _ | refine Below.drew ?_ | refine b_drewN ?_ _ | refine Below.setCell ?_ (by first | omega | (simp; done) | (simp; omega)) _ | refine b_call (by assumption) ?_))⟩
  · rw [if_neg h]
    go_enter Try.func69, Try.ntmps69
    go_wp2_with (go_at_call 25; refine (Check_no l h _).mono ?_; rintro e w1 ⟨rfl, hb1⟩; have hB1 := hid (show Below w.heap.size w w1 by (repeat (first | assumption | exact Below.refl _ _ | refine b_alloc ?_ _ | refine Below.drew ?_ | refine b_drewN ?_ _ | refine Below.setCell ?_ (by first | omega | (simp; done) | (simp; omega)) _ | refine b_call (by assumption) ?_))); clear hb1)
    go_ret
    exact ⟨rfl, by (repeat (first | assumption | exact Below.refl _ _ | refine b_alloc ?_ _ | refine Below.drew ?_ | refine b_drewN ?_ _ | refine Below.setCell ?_ (by first | omega | (simp; done) | (simp; omega)) _ | refine b_call (by assumption) ?_))⟩
end Go.Proofs.Ytlocdkjnefmiaaa
namespace Go.Proofs.Ytlocdkjnefmiaaa
open Go.RowKit
set_option linter.unusedVariables false
set_option linter.unusedSimpArgs false

/-- How many temperatures a span has. -/
def spanN (s : Int × Int) : Nat := (s.2 - s.1 + 1).toNat
/-- The numbers by which words can be late after some spans. -/
def Reach (l : Ln) (ss : List (Int × Int)) (nb : Nat) : Nat → Nat → Prop
  | 0, n => n = 0
  | k + 1, n => ∃ s m : Nat, within' l (ss[k]?.getD (0, 0)).1 (spanN (ss[k]?.getD (0, 0))) s false = true ∧ Reach l ss nb k m ∧ n = (m + s) % nb
/-- Pulses can be lost within some spans. -/
def lostTo (l : Ln) (ss : List (Int × Int)) (k : Nat) : Bool := (List.range k).any fun j => within' l (ss[j]?.getD (0, 0)).1 (spanN (ss[j]?.getD (0, 0))) 0 true
theorem lostTo_succ (l : Ln) (ss : List (Int × Int)) (k : Nat) : lostTo l ss (k + 1) = (lostTo l ss k || within' l (ss[k]?.getD (0, 0)).1 (spanN (ss[k]?.getD (0, 0))) 0 true) := by simp [lostTo, List.range_succ]

theorem b_alloc2 {W W' : World} {o : Obj} (h : Below (W.alloc o).heap.size (W.alloc o) W') : Below W.heap.size W W' := b_call h (b_alloc (Below.refl _ _) _)
/-- The result's block, as it was laid. -/
def CB (W : World) (b : Nat) : Prop := Cel W b 0 (.slice none 0 0) ∧ Cel W b 1 (.bool false)
theorem CB.call {W W' : World} {b : Nat} (h : CB W b) (hb : Below W.heap.size W W') : CB W' b := ⟨h.1.call hb, h.2.call hb⟩
theorem CB.new (W : World) : CB (W.alloc (.cells #[.slice none 0 0, .bool false] 42)) W.heap.size := ⟨Cel.new _ _ _ 0 _ rfl, Cel.new _ _ _ 1 _ rfl⟩
theorem spansErr_zero {ss : List (Int × Int)} (h : spansErr ss = 0) : ∀ k, k < ss.length → spanErr (ss[k]?.getD (0, 0)) = 0 := by
  induction ss with
  | nil => intro k hk; simp at hk
  | cons s r ih =>
    rw [spansErr] at h
    by_cases hs : spanErr s = 0
    · rw [if_pos hs] at h
      intro k hk
      cases k with
      | zero => simpa using hs
      | succ k => simpa using ih h k (by simpa using hk)
    · rw [if_neg hs] at h; exact absurd h hs
theorem spanErr_ok {s : Int × Int} (h : spanErr s = 0) : -500 ≤ s.1 ∧ s.2 ≤ 1000 ∧ s.1 ≤ s.2 := by
  unfold spanErr at h
  by_cases h1 : Temp s.1 ∧ Temp s.2
  · rw [if_pos h1] at h
    by_cases h2 : s.1 ≤ s.2
    · exact ⟨h1.1.1, h1.2.2, h2⟩
    · rw [if_neg h2] at h; cases h
  · rw [if_neg h1] at h; cases h
theorem within'_bd {l : Ln} (h : l.Ok) {lo : Int} {k : Nat} {s : Int} {c : Bool} (hw : within' l lo k s c = true) : 0 ≤ s ∧ s < l.W * l.B := by
  unfold within' at hw
  obtain ⟨j, _, hj⟩ := List.any_eq_true.1 hw
  have hs : s = l.rS (lo + j) % (l.W * l.B) := by
    have := (Bool.and_eq_true _ _ ▸ hj : _ ∧ _).1
    exact eq_of_beq this
  have := h.beats1
  rw [hs]
  exact ⟨Int.emod_nonneg _ (by omega), Int.emod_lt_of_pos _ (by omega)⟩
theorem Reach.lt {l : Ln} {ss : List (Int × Int)} {nb : Nat} (h1 : 1 ≤ nb) : ∀ {k n : Nat}, Reach l ss nb k n → n < nb
  | 0, n, h => by rw [Reach] at h; omega
  | k + 1, n, h => by obtain ⟨s, m, _, _, rfl⟩ := h; exact Nat.mod_lt _ (by omega)

set_option maxRecDepth 100000 in
set_option maxHeartbeats 2000000 in
theorem Can_ok (l : Ln) (h : l.Ok) (nb : Nat) (hnb : l.W * l.B = (nb : Int)) (a : Option Addr) (ca : Nat) (ss : List (Int × Int)) (hlt : ss.length ≤ 60) (he : spansErr ss = 0) (w : World) (hx : SpansAt w a ss) :
    Calls Try.prog 32 #[l.val, .slice a ss.length ca] w fun e w' => ∃ v ns, e = .returned (.tuple #[.agg #[v, .bool (lostTo l ss ss.length)], .int .i64 0]) ∧ w'.ownsRow w.heap.size 3 1 v ns.length (cellsN ns) ∧
      (∀ n, n ∈ ns ↔ Reach l ss nb ss.length n) ∧ ns.Pairwise (· < ·) ∧ Below w.heap.size w w' := by
  have hb := h.beats
  have hb1 := h.beats1
  have HX := hid hx
  have HE := hid (show canErr l ss = 0 by unfold canErr; rw [if_pos h, if_pos hlt]; exact he)
  have HNB := hid hnb
  have HB := hid (fun W => (beats_any l h W))
  have hnb1 : 1 ≤ nb ∧ nb ≤ 2560 := by omega
  have hbt := fun W => beats_any l h W
  rw [hnb] at hbt
  have HBT := hid hbt
  have hnb' := numbersBelow_any nb (by omega)
  obtain ⟨N1, hN1⟩ : ∃ N1, nb / 64 + 2 = N1 := ⟨_, rfl⟩
  rw [hN1] at hnb'
  have HNB' := hid hnb'
  have HN1 := hid hN1
  have hN1b : 2 ≤ N1 ∧ N1 ≤ 100 ∧ nb < 64 * N1 := by omega
  clear hnb' hN1
  have HSE := hid (spansErr_zero he)
  clear hx hbt HB hb hb1 he
  have hL0 := hid (lnAt_call (lnAt_new' l w) (b_alloc (Below.refl _ _) (.cells #[.slice none 0 0, .bool false] 42)))
  have hC0 := CB.new (w.alloc (.cells #[.int .i64 l.W, .int .i64 l.B, .int .i64 l.P, .int .i64 l.D, .int .i64 l.S, .int .i64 l.N] 25))
  rw [World.size_alloc] at hC0
  have HC0 := hid hC0
  clear hC0
  go_enter Try.func32, Try.ntmps32
  go_wp2_with (first
    | (go_at_call 69; refine (canError_any l a ca ss (by unfold Len; omega) _ (by exact HX.out.below (by (repeat (first | assumption | exact Below.refl _ _ | refine b_alloc ?_ _ | refine Below.drew ?_ | refine b_drewN ?_ _ | refine Below.setCell ?_ (by first | omega | (simp; done) | (simp; omega)) _ | refine b_call (by assumption) ?_))))).mono ?_; rintro e w1 ⟨rfl, hb1⟩; rw [HE.out]; have hB1 := hid (show Below w.heap.size w w1 by (repeat (first | assumption | exact Below.refl _ _ | refine b_alloc ?_ _ | refine Below.drew ?_ | refine b_drewN ?_ _ | refine Below.setCell ?_ (by first | omega | (simp; done) | (simp; omega)) _ | refine b_call (by assumption) ?_))); have HC1 := hid (HC0.out.call hb1); have hL1 := hid (lnAt_call hL0.out hb1); obtain ⟨d0, d1, d2, d3, d4, d5⟩ := hL1.out; clear hb1)
    | (go_at_call 71; refine (HBT.out _).mono ?_; rintro e w2 ⟨rfl, hb2⟩; have hB2 := hid (b_call hb2 hB1.out); have HC2 := hid (HC1.out.call hb2); have hL2 := hid (lnAt_call hL1.out hb2); clear d0 d1 d2 d3 d4 d5 hb2)
    | (go_at_call 70; refine (HNB'.out _).mono ?_; rintro e w3 ⟨g3, c3, rfl, hn3, hb3⟩; have hB3 := hid (b_call hb3 hB2.out); have HC3 := hid (HC2.out.call hb3); have hL3 := hid (lnAt_call hL2.out hb3); have hA := add_any (List.replicate N1 0) 0 (by rw [List.length_replicate]; omega) (by omega) _ g3 c3 w3 hn3; rw [List.length_replicate, show ((0 : Nat) : Int) = 0 from rfl] at hA; have HA := hid hA; have HN3 := hid hn3; clear hn3 hb3 hA)
    | (go_at_call 72; refine HA.out.mono ?_; rintro e w4 ⟨rfl, hn4, hg4⟩; have HN4 := hid hn4; have HG4 := hid hg4; clear hn4 hg4))
  have hL4 : LnAt w.heap.size l w4 := by
    obtain ⟨a0, a1, a2, a3, a4, a5⟩ := hL3.out
    have e := HG4.out.block w.heap.size (by have := World.block_lt_of_cell? _ _ a0; simpa using this) (by have := HN3.out.lt; have := hB2.out.size; have := World.block_lt_of_cell? _ _ hL2.out.1; simp only at this; simp; omega)
    exact ⟨(World.cell?_of_block (a := ⟨w.heap.size, 0, none⟩) e).trans a0, (World.cell?_of_block (a := ⟨w.heap.size, 1, none⟩) e).trans a1, (World.cell?_of_block (a := ⟨w.heap.size, 2, none⟩) e).trans a2, (World.cell?_of_block (a := ⟨w.heap.size, 3, none⟩) e).trans a3, (World.cell?_of_block (a := ⟨w.heap.size, 4, none⟩) e).trans a4, (World.cell?_of_block (a := ⟨w.heap.size, 5, none⟩) e).trans a5⟩
  have hC4 : CB w4 (w.heap.size + 1) := ⟨HC3.out.1.grown HG4.out (fun r e => by cases e; have := HN3.out.lt; have := HC2.out.1.lt; omega), HC3.out.2.grown HG4.out (fun r e => by cases e; have := HN3.out.lt; have := HC2.out.1.lt; omega)⟩
  have hB4 : Below w.heap.size w w4 := hB3.out.grown HG4.out hB3.out.size (fun k e => by cases e; have := HN3.out.lt; have := hB2.out.size; omega)
  have hn4 : NumsAt w4 w.heap.size g3 c3 ((List.replicate N1 0).set (0 / 64) ((List.replicate N1 0)[0 / 64]?.getD 0 ||| 2 ^ (0 % 64))) := HN4.out.low hB2.out.size
  have hm4 : ∀ n, mem ((List.replicate N1 0).set (0 / 64) ((List.replicate N1 0)[0 / 64]?.getD 0 ||| 2 ^ (0 % 64))) n = true ↔ Reach l ss nb 0 n := fun n => by
    rw [mem_add (by simp; omega), mem_zero, Reach]; simp
  go_loopw [7, 8, 26] (fun lo v i wr => ∃ (k g c : Nat) (zs : List Nat), k ≤ ss.length ∧ i = .int .i64 k ∧ lo = .bool (lostTo l ss k) ∧ v = .slice (some ⟨g, 0, none⟩) N1 c ∧ zs.length = N1 ∧ NumsAt wr w.heap.size g c zs ∧ (∀ n, mem zs n = true ↔ Reach l ss nb k n) ∧
      LnAt w.heap.size l wr ∧ CB wr (w.heap.size + 1) ∧ Below w.heap.size w wr) (fun _ _ i _ => ss.length - (intOf i).toNat)
  case atStart => exact ⟨0, g3, c3, _, Nat.zero_le _, rfl, by simp [lostTo], rfl, by simp, hn4, hm4, hL4, hC4, hB4⟩
  case round =>
    obtain ⟨k, g, c, zs, hk, rfl, rfl, rfl, hzl, hz, hm, hln, hcb, hbr⟩ := hrel
    have HCB := hid hcb
    clear hL4 hB4 hn4 hm4 hC4 hcb
    have HZL := hid hzl
    have HZ := hid hz
    have HM := hid hm
    have HLN := hid hln
    clear hzl hz hm
    by_cases hlt2 : k < ss.length
    · obtain ⟨b, off, rfl, hc1, hc2⟩ := (HX.out.below hbr) k hlt2
      have hse := spanErr_ok (HSE.out k hlt2)
      have hls := lostTo_succ l ss k
      have hrs : ∀ n, Reach l ss nb (k + 1) n ↔ ∃ s m : Nat, within' l (ss[k]?.getD (0, 0)).1 (spanN (ss[k]?.getD (0, 0))) s false = true ∧ Reach l ss nb k m ∧ n = (m + s) % nb := fun n => Iff.rfl
      obtain ⟨sp, hs⟩ : ∃ sp, ss[k]?.getD (0, 0) = sp := ⟨_, rfl⟩
      rw [hs] at hc1 hc2 hse hls
      simp only [hs] at hrs
      clear hs
      obtain ⟨lo, hi⟩ := sp
      simp only at hc1 hc2 hse
      have HRS := hid hrs
      have HLS := hid hls
      have HRW := hid (fun W => roundsWithin_any l h lo hi hse.1 hse.2.1 hse.2.2 W)
      have HSP := hid (show (hi - lo + 1).toNat = spanN (lo, hi) from rfl)
      clear hrs hls
      obtain ⟨lk, hlk⟩ : ∃ lk, lostTo l ss k = lk := ⟨_, rfl⟩
      rw [hlk]
      have HLK := hid hlk
      clear hlk
      obtain ⟨d0, d1, d2, d3, d4, d5⟩ := hln
      have hwf : (Lit.int .i64 0).wf = true := by decide
      have hszl : w.heap.size < wr.heap.size := by have := World.block_lt_of_cell? _ _ d0; simpa using this
      have hbs : b < wr.heap.size := by have := World.block_lt_of_cell? _ _ hc1; simpa using this
      have hlb := fun W b n hy hs => laterBy_any zs nb hnb1.1 hnb1.2 (by rw [HZL.out, HN1.out]) (fun m hm => Reach.lt hnb1.1 ((HM.out m).1 hm)) (within' l lo (spanN (lo, hi))) (fun s c' hw => by have := within'_bd h hw; have := HNB.out; omega) w.heap.size g c b n W hy hs
      rw [HZL.out] at hlb
      have HLB := hid hlb
      clear hlb
      cases lk <;>
      (go_wp2_with (first
        | (go_at_call 73; refine (HRW.out _).mono ?_; rintro e w5 ⟨b5, n5, hn5, rfl, hs5, hb5, hbel5⟩; have HB5 := hid (b_call hbel5 (b_alloc hbr _)); have HBL5 := hid (b_alloc2 hbel5); have HCB5 := hid (HCB.out.call (b_alloc2 hbel5)); have HLN5 := hid (lnAt_call HLN.out (b_alloc2 hbel5)); have HS5 := hid hs5; have hlook := hs5.look pairR Try.underlying105 hwf true; clear hs5 d0 d1 d2 d3 d4 d5 hbel5; obtain ⟨d0, d1, d2, d3, d4, d5⟩ := HLN5.out)
        | (go_at_call 71; refine (HBT.out _).mono ?_; rintro e w6 ⟨rfl, hb6⟩; have HB6 := hid (b_call hb6 HB5.out); have HS6 := hid (HS5.out.below hb6); have HCB6 := hid (HCB5.out.call hb6); have HLN6 := hid (lnAt_call HLN5.out hb6); have HZ6 := hid (HZ.out.below (b_call hb6 HBL5.out)); clear hb6)
        | (go_at_call 74; refine (HLB.out _ _ _ HZ6.out HS6.out).mono ?_; rintro e w7 ⟨g7, c7, zs7, hzl7, rfl, hz7, hm7, hb7⟩; rw [hzl7, HN1.out]; have HB7 := hid (b_call hb7 HB6.out); have HCB7 := hid (HCB6.out.call hb7); have HLN7 := hid (lnAt_call HLN6.out hb7); have HZ7 := hid (hz7.low HB6.out.size); have HM7 := hid hm7; have HZL7 := hid (hzl7.trans HN1.out); clear hz7 hm7 hzl7 hb7)))
      all_goals
        refine ⟨⟨k + 1, g7, c7, zs7, by omega, by go_num, ?_, rfl, HZL7.out, HZ7.out, fun n => ?_, HLN7.out, HCB7.out, HB7.out⟩, by simp [intOf]; omega⟩
        · have e := HSP.out
          rw [HLS.out, HLK.out]
          simp [e]
        · rw [HM7.out, HRS.out]
          constructor
          · rintro ⟨s, m, a1, a2, a3⟩; exact ⟨s, m, a1, (HM.out m).1 a2, a3⟩
          · rintro ⟨s, m, a1, a2, a3⟩; exact ⟨s, m, a1, (HM.out m).2 a2, a3⟩
    · obtain rfl : k = ss.length := by omega
      have hL := list_any zs (by have := HZL.out; omega) w.heap.size g c wr HZ.out
      rw [HZL.out] at hL
      have HLI := hid hL
      clear hL
      go_wp2_with (go_at_call 75; refine HLI.out.mono ?_; rintro e W5 ⟨v, rfl, hv, hb5⟩; obtain ⟨av, cv, rfl, _⟩ := rowInts hv; have HV := hid hv; have HB5 := hid (b_call hb5 hbr); obtain ⟨⟨k0, k1⟩, ⟨k2, k3⟩⟩ := HCB.out.call hb5; have k4 := (World.cell?_setCell_other W5 ⟨w.heap.size + 1, 0, none⟩ ⟨w.heap.size + 1, 1, none⟩ (.slice av (listTo zs (64 * N1)).length cv) (by simp)).trans k2; clear hv hb5)
      have hcl := HCB.out.1.lt
      generalize hV : (Value.slice av (listTo zs (64 * N1)).length cv) = V at *
      have hg1 : W5.grownBy (W5.setCell ⟨w.heap.size + 1, 0, none⟩ V) (some (w.heap.size + 1)) := ⟨rfl, rfl, rfl, by simp, fun k hk hne => Below.heap_setCell W5 _ _ k (fun e => hne (by rw [e]))⟩
      have hg2 : (W5.setCell ⟨w.heap.size + 1, 0, none⟩ V).grownBy ((W5.setCell ⟨w.heap.size + 1, 0, none⟩ V).setCell ⟨w.heap.size + 1, 1, none⟩ (.bool (lostTo l ss ss.length))) (some (w.heap.size + 1)) := ⟨rfl, rfl, rfl, by simp, fun k hk hne => Below.heap_setCell _ _ _ k (fun e => hne (by rw [e]))⟩
      have hvb : V.ownBlock ≠ some (w.heap.size + 1) := fun e => by have := (HV.out.lt _ e).1; omega
      have z0 := (World.cell?_setCell_other (W5.setCell ⟨w.heap.size + 1, 0, none⟩ V) ⟨w.heap.size + 1, 1, none⟩ ⟨w.heap.size + 1, 0, none⟩ (.bool (lostTo l ss ss.length)) (by simp)).trans (World.cell?_setCell_same' W5 ⟨w.heap.size + 1, 0, none⟩ V (by rw [k0]; rfl))
      have z1 := World.cell?_setCell_same' (W5.setCell ⟨w.heap.size + 1, 0, none⟩ V) ⟨w.heap.size + 1, 1, none⟩ (.bool (lostTo l ss ss.length)) (by rw [k4]; rfl)
      have hbf := (HB5.out.grown hg1 HB5.out.size (fun k e => by cases e; omega)).grown hg2 (by have := HB5.out.size; simp; omega) (fun k e => by cases e; omega)
      have hrow := ownsRow_low ((HV.out.kept hg1 (.inr hvb)).kept hg2 (.inr hvb)) hbr.size
      generalize World.setCell (World.setCell W5 ⟨w.heap.size + 1, 0, none⟩ V) ⟨w.heap.size + 1, 1, none⟩ (.bool (lostTo l ss ss.length)) = WF at *
      refine ⟨rfl, .tuple #[.agg #[V, .bool (lostTo l ss ss.length)], .int .i64 0], ?_, V, listTo zs (64 * N1), rfl, hrow, fun n => ?_, ?_, hbf⟩
      · simp [results, Try.f32, go_sem, z0, z1]
      · rw [← HM.out n]
        constructor
        · intro hn; exact (List.mem_filter.1 hn).2
        · intro hn
          refine List.mem_filter.2 ⟨List.mem_range.2 ?_, hn⟩
          have := Reach.lt hnb1.1 ((HM.out n).1 hn); omega
      · exact List.Pairwise.filter _ List.pairwise_lt_range

set_option maxRecDepth 100000 in
set_option maxHeartbeats 1000000 in
theorem Can_err (l : Ln) (a : Option Addr) (ca : Nat) (ss : List (Int × Int)) (hn : Len ss.length) (hne : canErr l ss ≠ 0) (w : World) (hx : SpansAt w a ss) :
    Calls Try.prog 32 #[l.val, .slice a ss.length ca] w (Ret w (.tuple #[.agg #[.slice none 0 0, .bool false], .int .i64 (canErr l ss)])) := by
  have HX := hid hx
  have hC0 := CB.new (w.alloc (.cells #[.int .i64 l.W, .int .i64 l.B, .int .i64 l.P, .int .i64 l.D, .int .i64 l.S, .int .i64 l.N] 25))
  rw [World.size_alloc] at hC0
  have HC0 := hid hC0
  have hc := fun W hy => canError_any l a ca ss hn W hy
  generalize canErr l ss = er at *
  have HC := hid hc
  have hne' : (er != 0) = true := by simpa using hne
  clear hx hC0 hc
  go_enter Try.func32, Try.ntmps32
  go_wp2_with (go_at_call 69; refine (HC.out _ (by exact HX.out.below (by (repeat (first | assumption | exact Below.refl _ _ | refine b_alloc ?_ _ | refine Below.drew ?_ | refine b_drewN ?_ _ | refine Below.setCell ?_ (by first | omega | (simp; done) | (simp; omega)) _ | refine b_call (by assumption) ?_))))).mono ?_; rintro e w1 ⟨rfl, hb1⟩; have hB1 := hid (show Below w.heap.size w w1 by (repeat (first | assumption | exact Below.refl _ _ | refine b_alloc ?_ _ | refine Below.drew ?_ | refine b_drewN ?_ _ | refine Below.setCell ?_ (by first | omega | (simp; done) | (simp; omega)) _ | refine b_call (by assumption) ?_))); obtain ⟨⟨k0, k1⟩, ⟨k2, k3⟩⟩ := HC0.out.call hb1; have k4 := (World.cell?_setCell_other w1 ⟨w.heap.size + 1, 0, none⟩ ⟨w.heap.size + 1, 1, none⟩ (.slice none 0 0) (by simp)).trans k2; clear hb1)
  have hg1 : w1.grownBy (w1.setCell ⟨w.heap.size + 1, 0, none⟩ (.slice none 0 0)) (some (w.heap.size + 1)) := ⟨rfl, rfl, rfl, by simp, fun k hk hne => Below.heap_setCell w1 _ _ k (fun e => hne (by rw [e]))⟩
  have hg2 : (w1.setCell ⟨w.heap.size + 1, 0, none⟩ (.slice none 0 0)).grownBy ((w1.setCell ⟨w.heap.size + 1, 0, none⟩ (.slice none 0 0)).setCell ⟨w.heap.size + 1, 1, none⟩ (.bool false)) (some (w.heap.size + 1)) := ⟨rfl, rfl, rfl, by simp, fun k hk hne => Below.heap_setCell _ _ _ k (fun e => hne (by rw [e]))⟩
  have z0 := (World.cell?_setCell_other (w1.setCell ⟨w.heap.size + 1, 0, none⟩ (.slice none 0 0)) ⟨w.heap.size + 1, 1, none⟩ ⟨w.heap.size + 1, 0, none⟩ (.bool false) (by simp)).trans (World.cell?_setCell_same' w1 ⟨w.heap.size + 1, 0, none⟩ (.slice none 0 0) (by rw [k0]; rfl))
  have z1 := World.cell?_setCell_same' (w1.setCell ⟨w.heap.size + 1, 0, none⟩ (.slice none 0 0)) ⟨w.heap.size + 1, 1, none⟩ (.bool false) (by rw [k4]; rfl)
  have hbf := (hB1.out.grown hg1 hB1.out.size (fun k e => by cases e; omega)).grown hg2 (by have := hB1.out.size; simp; omega) (fun k e => by cases e; omega)
  generalize World.setCell (World.setCell w1 ⟨w.heap.size + 1, 0, none⟩ (.slice none 0 0)) ⟨w.heap.size + 1, 1, none⟩ (.bool false) = WF at *
  refine ⟨rfl, .tuple #[.agg #[.slice none 0 0, .bool false], .int .i64 er], ?_, rfl, hbf⟩
  simp [results, Try.f32, go_sem, z0, z1]
end Go.Proofs.Ytlocdkjnefmiaaa
namespace Go.Proofs.Ytlocdkjnefmiaaa
open Go.RowKit
set_option linter.unusedVariables false
set_option linter.unusedSimpArgs false

/-- Ascending, by index. -/
def Asc (ns : List Nat) : Prop := ∀ i j, i < j → j < ns.length → ns[i]?.getD 0 < ns[j]?.getD 0
theorem asc_of {ns : List Nat} (h : ns.Pairwise (· < ·)) : Asc ns := fun i j hij hj => by
  have := List.pairwise_iff_getElem.1 h i j (by omega) hj hij
  simpa [hj, show i < ns.length by omega] using this
theorem asc_ge {ns : List Nat} (h : Asc ns) : ∀ i, i < ns.length → i ≤ ns[i]?.getD 0
  | 0, _ => Nat.zero_le _
  | i + 1, hi => by have := asc_ge h i (by omega); have := h i (i + 1) (by omega) hi; omega
theorem asc_len {ns : List Nat} (h : Asc ns) {nb : Nat} (hb : ∀ n ∈ ns, n < nb) : ns.length ≤ nb := by
  by_cases h0 : ns.length = 0
  · omega
  · have h1 := asc_ge h (ns.length - 1) (by omega)
    have h2 := hb (ns[ns.length - 1]?.getD 0) (by simp [show ns.length - 1 < ns.length by omega])
    omega
/-- What Can returns, as the law reads it. -/
def CanRet (W : World) (R : Nat → Prop) (lost : Bool) (e : Ending) (w' : World) : Prop :=
  ∃ (ns : List Nat) (av : Option Addr) (cv : Nat), e = .returned (.tuple #[.agg #[.slice av ns.length cv, .bool lost], .int .i64 0]) ∧ IntsAt w' av (ns.map fun k : Nat => (k : Int)) ∧ Asc ns ∧ (∀ n, n ∈ ns ↔ R n) ∧ ns.length ≤ 2560 ∧ Below W.heap.size W w'

theorem index_of {ns : List Nat} {p : Nat} (h : p ∈ ns) : ∃ i, i < ns.length ∧ ns[i]?.getD 0 = p := by
  obtain ⟨i, hi, e⟩ := List.mem_iff_getElem.1 h
  exact ⟨i, hi, by simp [hi, e]⟩
theorem canErr_zero {l : Ln} {ss : List (Int × Int)} (h : canErr l ss = 0) : l.Ok ∧ ss.length ≤ 60 ∧ spansErr ss = 0 := by
  unfold canErr at h
  split at h
  · rename_i h1
    split at h
    · rename_i h2; exact ⟨h1, h2, h⟩
    · omega
  · omega
theorem Can_ret (l : Ln) (h : l.Ok) (nb : Nat) (hnb : l.W * l.B = (nb : Int)) (a : Option Addr) (ca : Nat) (ss : List (Int × Int)) (hlt : ss.length ≤ 60) (he : spansErr ss = 0) (w : World) (hx : SpansAt w a ss) :
    Calls Try.prog 32 #[l.val, .slice a ss.length ca] w (CanRet w (Reach l ss nb ss.length) (lostTo l ss ss.length)) := by
  have hb := h.beats
  have hb1 := h.beats1
  refine (Can_ok l h nb hnb a ca ss hlt he w hx).mono ?_
  rintro e w' ⟨v, ns, rfl, hrow, hm, hp, hb⟩
  obtain ⟨av, cv, rfl, hi, _⟩ := rowInts hrow
  have ha := asc_of hp
  exact ⟨ns, av, cv, rfl, hi, ha, hm, Nat.le_trans (asc_len ha (nb := nb) (fun n hn => Reach.lt (by omega) ((hm n).1 hn))) (by omega), hb⟩
end Go.Proofs.Ytlocdkjnefmiaaa
