/-
  Sets: maps keyed by a struct of an int and a bool, whose elements are true.
-/
import Derived.Maps.OwnOps
import Derived.Maps.OwnSet
import Derived.Maps.RangeWalk
import Derived.Maps.Views
import Derived.DeepKeys4
import Derived.Test.YtggkhddficmnfaaTurn
namespace Go.Proofs.Ytggkhddficmnfaa
open Go.RowKit
open Go.Maps (Keyed has)
set_option linter.unusedVariables false
set_option linter.unusedSimpArgs false

/-- A struct of an int and a bool. -/
abbrev pv (s : Int) (c : Bool) : Value := .agg #[.int .i64 s, .bool c]
theorem laidOut : laidOutB Try.prog = true := by kernel_rfl
theorem lawR : Keyed Try.prog 81 := Keyed.of_law (deep_law_laid laidOut (m := 2) (by omega) (of_decide_eq_true (by kernel_rfl)) (by kernel_rfl) (by rw [Try.underlying81]))
theorem lawC : Keyed Try.prog 116 := Keyed.of_law (deep_law_laid laidOut (m := 2) (by omega) (of_decide_eq_true (by kernel_rfl)) (by kernel_rfl) (by rw [Try.underlying116]))

/-- What is asked of the key's type. -/
structure PairKey (K : TypeId) : Prop where
  law : Keyed Try.prog K
  key : ∀ s c, (Lit.int .i64 s).wf = true → ∃ kl, keyOf Try.prog K (pv s c) = some kl
  inv : ∀ v kl, keyOf Try.prog K v = some kl → ∃ s c, v = pv s c ∧ (Lit.int .i64 s).wf = true

theorem keyR_mk (s : Int) (c : Bool) (h : (Lit.int .i64 s).wf = true) : ∃ kl, keyOf Try.prog 81 (pv s c) = some kl := by
  have e1 : Try.prog.keyType 81 = true := by kernel_rfl
  have e2 : Try.prog.cellsOf 81 = 2 := by kernel_rfl
  have e3 : Try.prog.cellsOf 3 = 1 := by kernel_rfl
  have e4 : Try.prog.cellsOf 4 = 1 := by kernel_rfl
  have e5 : (pv s c).formed Try.prog 81 = true := by simp [Value.formed, Try.underlying81, e2]
  obtain ⟨N, hN⟩ : ∃ N, Try.prog.types.size + 1 = N + 1 + 1 := ⟨Try.prog.types.size - 1, by have : (1 : Nat) < Try.prog.types.size := of_decide_eq_true (by kernel_rfl); omega⟩
  unfold keyOf
  rw [Try.underlying81]
  simp only [e1, e5, hN]
  simp [Program.keyLits, Try.underlying81, Try.underlying3, Try.underlying4, e2, e3, e4, Value.cells, h]
theorem keyR_inv (v : Value) (kl : Lit) (h : keyOf Try.prog 81 v = some kl) : ∃ s c, v = pv s c ∧ (Lit.int .i64 s).wf = true := by
  have e2 : Try.prog.cellsOf 81 = 2 := by kernel_rfl
  have e3 : Try.prog.cellsOf 3 = 1 := by kernel_rfl
  have e4 : Try.prog.cellsOf 4 = 1 := by kernel_rfl
  obtain ⟨N, hN⟩ : ∃ N, Try.prog.types.size + 1 = N + 1 + 1 := ⟨Try.prog.types.size - 1, by have : (1 : Nat) < Try.prog.types.size := of_decide_eq_true (by kernel_rfl); omega⟩
  obtain ⟨xs, L, rfl, h1, _⟩ := keyOf_top (by rw [Try.underlying81]) h
  obtain ⟨xs⟩ := xs
  simp only [hN] at h1
  simp only [Program.keyLits, Try.underlying81, e2] at h1
  split at h1
  · rename_i hl
    have hl1 : xs.length = 2 := hl.1
    clear hl h hN
    rcases xs with _ | ⟨x, _ | ⟨y, _ | ⟨z, zs⟩⟩⟩
    · cases hl1
    · cases hl1
    · simp [Program.keyLits, Try.underlying3, Try.underlying4, e3, e4] at h1
      cases x <;> simp at h1
      rename_i k n
      by_cases hk : k = IntKind.i64 ∧ (Lit.int IntKind.i64 n).wf = true
      · obtain ⟨rfl, hw⟩ := hk
        cases y <;> simp [hw] at h1
        exact ⟨_, _, rfl, hw⟩
      · rw [if_neg hk] at h1; simp at h1
    · simp at hl1
  · cases h1
theorem keyC_mk (s : Int) (c : Bool) (h : (Lit.int .i64 s).wf = true) : ∃ kl, keyOf Try.prog 116 (pv s c) = some kl := by
  have e1 : Try.prog.keyType 116 = true := by kernel_rfl
  have e2 : Try.prog.cellsOf 116 = 2 := by kernel_rfl
  have e3 : Try.prog.cellsOf 3 = 1 := by kernel_rfl
  have e4 : Try.prog.cellsOf 4 = 1 := by kernel_rfl
  have e5 : (pv s c).formed Try.prog 116 = true := by simp [Value.formed, Try.underlying116, e2]
  obtain ⟨N, hN⟩ : ∃ N, Try.prog.types.size + 1 = N + 1 + 1 := ⟨Try.prog.types.size - 1, by have : (1 : Nat) < Try.prog.types.size := of_decide_eq_true (by kernel_rfl); omega⟩
  unfold keyOf
  rw [Try.underlying116]
  simp only [e1, e5, hN]
  simp [Program.keyLits, Try.underlying116, Try.underlying3, Try.underlying4, e2, e3, e4, Value.cells, h]
theorem keyC_inv (v : Value) (kl : Lit) (h : keyOf Try.prog 116 v = some kl) : ∃ s c, v = pv s c ∧ (Lit.int .i64 s).wf = true := by
  have e2 : Try.prog.cellsOf 116 = 2 := by kernel_rfl
  have e3 : Try.prog.cellsOf 3 = 1 := by kernel_rfl
  have e4 : Try.prog.cellsOf 4 = 1 := by kernel_rfl
  obtain ⟨N, hN⟩ : ∃ N, Try.prog.types.size + 1 = N + 1 + 1 := ⟨Try.prog.types.size - 1, by have : (1 : Nat) < Try.prog.types.size := of_decide_eq_true (by kernel_rfl); omega⟩
  obtain ⟨xs, L, rfl, h1, _⟩ := keyOf_top (by rw [Try.underlying116]) h
  obtain ⟨xs⟩ := xs
  simp only [hN] at h1
  simp only [Program.keyLits, Try.underlying116, e2] at h1
  split at h1
  · rename_i hl
    have hl1 : xs.length = 2 := hl.1
    clear hl h hN
    rcases xs with _ | ⟨x, _ | ⟨y, _ | ⟨z, zs⟩⟩⟩
    · cases hl1
    · cases hl1
    · simp [Program.keyLits, Try.underlying3, Try.underlying4, e3, e4] at h1
      cases x <;> simp at h1
      rename_i k n
      by_cases hk : k = IntKind.i64 ∧ (Lit.int IntKind.i64 n).wf = true
      · obtain ⟨rfl, hw⟩ := hk
        cases y <;> simp [hw] at h1
        exact ⟨_, _, rfl, hw⟩
      · rw [if_neg hk] at h1; simp at h1
    · simp at hl1
  · cases h1
theorem pairR : PairKey 81 := ⟨lawR, keyR_mk, keyR_inv⟩
theorem pairC : PairKey 116 := ⟨lawC, keyC_mk, keyC_inv⟩

/-- What a datum says of the pairs: at those of S it has 'true', at the others nothing. -/
def Holds (K : TypeId) (S : Int → Bool → Bool) (D : DataW Unit) : Prop :=
  ∀ s c kl, keyOf Try.prog K (pv s c) = some kl → D.atKey kl (.lit (.bool false)) = .lit (.bool (S s c)) ∧ has D kl = S s c
/-- Block b is the set S, of at most n entries. -/
def SetAt (W : World) (K : TypeId) (b n : Nat) (S : Int → Bool → Bool) : Prop :=
  ∃ D : DataW Unit, W.ownsMap Try.prog K (plainElem Try.prog 4) b n D ∧ Holds K S D

theorem SetAt.made (W : World) (K : TypeId) : SetAt (W.alloc (.map #[] 0)) K W.heap.size 0 (fun _ _ => false) :=
  ⟨.map [], World.ownsMap_made _ _ _ _, fun s c kl _ => ⟨rfl, rfl⟩⟩
theorem SetAt.kept {W W' : World} {K : TypeId} {b n : Nat} {S : Int → Bool → Bool} {row : Option Nat} (h : SetAt W K b n S) (hg : W.grownBy W' row) (hne : some b ≠ row) : SetAt W' K b n S :=
  let ⟨D, h1, h2⟩ := h; ⟨D, h1.kept hg hne, h2⟩
theorem SetAt.below {W W' : World} {K : TypeId} {b n : Nat} {S : Int → Bool → Bool} (h : SetAt W K b n S) (hb : Below W.heap.size W W') : SetAt W' K b n S :=
  h.kept (⟨hb.os, hb.tape, hb.output, hb.size, fun k hk _ => hb.block k hk⟩ : W.grownBy W' none) (by simp)
theorem SetAt.alloc {W : World} {K : TypeId} {b n : Nat} {S : Int → Bool → Bool} (h : SetAt W K b n S) (o : Obj) : SetAt (W.alloc o) K b n S :=
  h.kept (World.grownBy_alloc W o none) (by simp)
theorem SetAt.lt {W : World} {K : TypeId} {b n : Nat} {S : Int → Bool → Bool} (h : SetAt W K b n S) : b < W.heap.size := let ⟨_, h1, _⟩ := h; h1.lt
theorem SetAt.congr {W : World} {K : TypeId} {b n : Nat} {S S' : Int → Bool → Bool} (h : SetAt W K b n S) (he : ∀ s c, S s c = S' s c) : SetAt W K b n S' := by
  have : S = S' := funext fun s => funext fun c => he s c
  rw [← this]; exact h

theorem plainElem_bool_inv {H : Type} {P : Program} {e : TypeId} (he : P.underlying e = some .bool) {v : Value} {z : DataW H × List MemPlace} (h : plainElem P e v = some z) : ∃ x, v = .bool x ∧ z = (.lit (.bool x), []) := by
  unfold plainElem at h
  rw [he] at h
  cases v <;> simp at h
  exact ⟨_, rfl, h.symm⟩
theorem zeroB (w : World) : (zeroValue 4).run Try.prog w = .ok (.bool false) w := by kernel_rfl

/-- 'm[x]': is x in the set? -/
theorem SetAt.look {W : World} {K t : TypeId} {b n : Nat} {S : Int → Bool → Bool} (h : SetAt W K b n S) (hk : PairKey K) (ht : Try.prog.underlying t = some (.map K 4)) {s : Int} (hs : (Lit.int .i64 s).wf = true) (c : Bool) :
    (Instr.lookup t (.map (some b)) (pv s c) false).run Try.prog W = .ok (.bool (S s c)) W := by
  obtain ⟨D, hown, hD⟩ := h
  obtain ⟨kl, hkl⟩ := hk.key s c hs
  obtain ⟨v, ps, hrun, hv⟩ := hown.lookup hk.law ht (zeroB W) (plainElem_bool Try.underlying4 false) hkl
  obtain ⟨x, rfl, hx⟩ := plainElem_bool_inv Try.underlying4 hv
  have := (hD s c kl hkl).1
  rw [this] at hx
  simp at hx
  rw [hrun, hx.1]

/-- 'm[x] = true'. -/
theorem SetAt.store {W : World} {K t : TypeId} {b n : Nat} {S : Int → Bool → Bool} (h : SetAt W K b n S) (hk : PairKey K) (ht : Try.prog.underlying t = some (.map K 4)) (hn : n < maxLen) {s : Int} (hs : (Lit.int .i64 s).wf = true) (c : Bool) :
    ∃ W', (Instr.mapUpdate t (.map (some b)) (pv s c) (.bool true)).run Try.prog W = .ok () W' ∧ SetAt W' K b (n + 1) (fun s' c' => S s' c' || (s' == s && c' == c)) ∧ W.grownBy W' (some b) := by
  obtain ⟨D, hown, hD⟩ := h
  obtain ⟨kl, hkl⟩ := hk.key s c hs
  obtain ⟨W', hrun, hown', hg⟩ := hown.update hk.law ht hn hkl (plainElem_bool Try.underlying4 true)
  refine ⟨W', hrun, ⟨_, hown', fun s' c' kl' hkl' => ?_⟩, hg⟩
  have hm := (hown.tidy hk.law).isMap
  by_cases e : s' = s ∧ c' = c
  · obtain ⟨rfl, rfl⟩ := e
    rw [hkl] at hkl'; cases hkl'
    have hl := hk.law.key hkl
    exact ⟨by rw [Maps.atKey_put_same hm hl]; simp, by rw [Maps.has_put_same hm hl]; simp⟩
  · have hne : kl' ≠ kl := fun e' => by
      subst e'
      have := hk.law.inj hkl' hkl
      simp [pv] at this
      exact e this
    have hb : (s' == s && c' == c) = false := by
      cases h : (s' == s && c' == c)
      · rfl
      · simp at h; exact absurd h e
    rw [Maps.atKey_put_other hne, Maps.has_put_other hne, (hD s' c' kl' hkl').1, (hD s' c' kl' hkl').2]
    simp only [hb, Bool.or_false, and_self]

theorem wpList_set_look {ops : Array Oper} {rest : List Oper} {o : Oper} {a : Act} {Q : Exit → Act → World → Prop} (W : World)
    (hg : o.guard = none) (m x : Operand) (t : TypeId) (hop : o.op = Op.lookup t m x false) {K : TypeId} (hk : PairKey K) (ht : Try.prog.underlying t = some (.map K 4)) (b n : Nat) (S : Int → Bool → Bool)
    (hm : a.eval m = .map (some b)) (h : SetAt W K b n S) (s : Int) (c : Bool) (hx : a.eval x = pv s c) (hs : (Lit.int .i64 s).wf = true)
    (hK : wpList Try.prog ops Q rest (a.put o.dst (.bool (S s c))) W) : wpList Try.prog ops Q (o :: rest) a W := by
  refine wpList_plain hg fun K' hK' => ?_
  have hrun := h.look hk ht hs c
  unfold Oper.wp
  simp [execOp, hop, hm, hx, hrun, Result.andThen]
  exact hK' _ _ hK
theorem wpList_set_store {ops : Array Oper} {rest : List Oper} {o : Oper} {a : Act} {Q : Exit → Act → World → Prop} (W : World)
    (hg : o.guard = none) (m x v : Operand) (t : TypeId) (hop : o.op = Op.mapUpdate t m x v) {K : TypeId} (hk : PairKey K) (ht : Try.prog.underlying t = some (.map K 4)) (b n : Nat) (S : Int → Bool → Bool)
    (hm : a.eval m = .map (some b)) (h : SetAt W K b n S) (hn : n < maxLen) (s : Int) (c : Bool) (hx : a.eval x = pv s c) (hv : a.eval v = .bool true) (hs : (Lit.int .i64 s).wf = true)
    (hK : ∀ W', SetAt W' K b (n + 1) (fun s' c' => S s' c' || (s' == s && c' == c)) → W.grownBy W' (some b) → wpList Try.prog ops Q rest (a.put o.dst undef) W') : wpList Try.prog ops Q (o :: rest) a W := by
  refine wpList_plain hg fun K' hK' => ?_
  obtain ⟨W', hrun, r1, r2⟩ := h.store hk ht hn hs c
  unfold Oper.wp
  simp [execOp, hop, hm, hx, hv, hrun, Result.andThen]
  exact hK' _ _ (hK W' r1 r2)

/-- Block r is a loop over the set S in block b; L: what is still to come; cnt: how many. -/
def RangeAt (W : World) (K : TypeId) (b r n : Nat) (S L : Int → Bool → Bool) (cnt : Nat) : Prop :=
  ∃ (D : DataW Unit) (left : Lit → Bool), W.ranges Try.prog K (plainElem Try.prog 4) b r n D left cnt ∧ Holds K S D ∧ ∀ s c kl, keyOf Try.prog K (pv s c) = some kl → left kl = L s c
theorem RangeAt.left {W : World} {K : TypeId} {b r n : Nat} {S L : Int → Bool → Bool} {cnt : Nat} (h : RangeAt W K b r n S L cnt) : W.rangeLeft b r = cnt := let ⟨_, _, h1, _⟩ := h; h1.left_eq
theorem RangeAt.kept {W W' : World} {K : TypeId} {b r n : Nat} {S L : Int → Bool → Bool} {cnt : Nat} {row : Option Nat} (h : RangeAt W K b r n S L cnt) (hg : W.grownBy W' row) (h1 : some b ≠ row) (h2 : some r ≠ row) : RangeAt W' K b r n S L cnt :=
  let ⟨D, left, a1, a2, a3⟩ := h; ⟨D, left, a1.kept hg h1 h2, a2, a3⟩
theorem RangeAt.below {W W' : World} {K : TypeId} {b r n : Nat} {S L : Int → Bool → Bool} {cnt : Nat} (h : RangeAt W K b r n S L cnt) (hb : Below W.heap.size W W') : RangeAt W' K b r n S L cnt :=
  h.kept (⟨hb.os, hb.tape, hb.output, hb.size, fun k hk _ => hb.block k hk⟩ : W.grownBy W' none) (by simp) (by simp)
theorem RangeAt.lt {W : World} {K : TypeId} {b r n : Nat} {S L : Int → Bool → Bool} {cnt : Nat} (h : RangeAt W K b r n S L cnt) : r < W.heap.size := let ⟨_, _, h1, _⟩ := h; h1.lt

theorem wpList_set_range {ops : Array Oper} {rest : List Oper} {o : Oper} {a : Act} {Q : Exit → Act → World → Prop} (W : World)
    (hg : o.guard = none) (m : Operand) (t : TypeId) (hop : o.op = Op.range t m) {K : TypeId} (hk : PairKey K) (ht : Try.prog.underlying t = some (.map K 4)) (b n : Nat) (S : Int → Bool → Bool)
    (hm : a.eval m = .map (some b)) (h : SetAt W K b n S)
    (hK : ∀ W' cnt, RangeAt W' K b W.heap.size n S S cnt → W.grownBy W' none → W'.heap.size = W.heap.size + 1 → wpList Try.prog ops Q rest (a.put o.dst (.pointer (some ⟨W.heap.size, 0, none⟩))) W') :
    wpList Try.prog ops Q (o :: rest) a W := by
  obtain ⟨D, hown, hD⟩ := h
  exact wpList_range_own W hg m t hop K 4 hk.law ht _ b n D hm hown fun W' h1 h2 h3 => hK W' _ ⟨D, _, h1, hD, fun s c kl hkl => (hD s c kl hkl).2⟩ h2 h3

theorem wpList_set_next {ops : Array Oper} {rest : List Oper} {o : Oper} {a : Act} {Q : Exit → Act → World → Prop} (W : World)
    (hg : o.guard = none) (it : Operand) (hop : o.op = Op.next it false) {K : TypeId} (hk : PairKey K) (b r n : Nat) (S L : Int → Bool → Bool) (cnt : Nat)
    (hit : a.eval it = .pointer (some ⟨r, 0, none⟩)) (h : RangeAt W K b r n S L cnt)
    (hDone : cnt = 0 → (∀ s c, (Lit.int .i64 s).wf = true → L s c = false) → wpList Try.prog ops Q rest (a.put o.dst (.tuple #[.bool false])) W)
    (hMore : ∀ (s : Int) (c : Bool) (W' : World) (cnt' : Nat), (Lit.int .i64 s).wf = true → L s c = true → S s c = true → RangeAt W' K b r n S (fun s' c' => L s' c' && !(s' == s && c' == c)) cnt' → cnt' < cnt →
      W.grownBy W' (some r) → W'.heap.size = W.heap.size → (Instr.entry (.pointer (some ⟨r, 0, none⟩))).run Try.prog W' = .ok (.tuple #[pv s c, .bool true]) W' → wpList Try.prog ops Q rest (a.put o.dst (.tuple #[.bool true, pv s c, .bool true])) W') :
    wpList Try.prog ops Q (o :: rest) a W := by
  obtain ⟨D, left, hr, hD, hL⟩ := h
  refine wpList_next_ranges W hg it hop K hk.law _ (fun x : Int × Bool => pv x.1 x.2) Value.bool (fun v kl hv => by obtain ⟨s, c, rfl, _⟩ := hk.inv v kl hv; exact ⟨(s, c), rfl⟩)
    (fun v y hv => by obtain ⟨x, rfl, _⟩ := plainElem_bool_inv Try.underlying4 hv; exact ⟨x, rfl⟩) b r n D left cnt hit hr ?_ ?_
  · intro h0 hl
    exact hDone h0 fun s c hs => by obtain ⟨kl, hkl⟩ := hk.key s c hs; rw [← hL s c kl hkl]; exact hl kl
  · rintro ⟨s, c⟩ v kl y W' cnt' hkl hlk hv hat hr' hlt hgr hsz hen
    obtain ⟨s', c', e, hs⟩ := hk.inv _ kl hkl
    simp only [pv, Value.agg.injEq, Array.mk.injEq, List.cons.injEq, Value.int.injEq, Value.bool.injEq, true_and, and_true] at e
    obtain ⟨rfl, rfl⟩ := e
    obtain ⟨x, e, rfl⟩ := plainElem_bool_inv Try.underlying4 hv
    cases e
    have hS : S s c = true := by rw [← (hD s c kl hkl).2]; exact Maps.has_true_of_atKey hat
    have hv1 : v = true := by
      have h1 := hat (.lit (.bool false))
      rw [(hD s c kl hkl).1, hS] at h1
      simpa using h1.symm
    subst hv1
    refine hMore s c W' cnt' hs (by rw [← hL s c kl hkl]; exact hlk) hS ⟨D, _, hr', hD, fun s' c' kl' hkl' => ?_⟩ hlt hgr hsz hen
    simp only [hL s' c' kl' hkl']
    by_cases e : s' = s ∧ c' = c
    · obtain ⟨rfl, rfl⟩ := e
      rw [hkl] at hkl'; cases hkl'
      rw [WideAt.sameKey_self (hk.law.key hkl)]; simp
    · have hne : kl' ≠ kl := fun e' => by
        subst e'
        have := hk.law.inj hkl' hkl
        simp [pv] at this
        exact e this
      rw [Maps.sameKey_ne hne]
      have hb : (s' == s && c' == c) = false := by
        cases h : (s' == s && c' == c)
        · rfl
        · simp at h; exact absurd h e
      rw [hb]
end Go.Proofs.Ytggkhddficmnfaa
