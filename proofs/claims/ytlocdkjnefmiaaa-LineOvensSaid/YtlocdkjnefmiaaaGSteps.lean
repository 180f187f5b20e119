/-
  The iterator over what a climate can become in a minute; meet.
  The climates that there can be, minute by minute (mathematics alone).
  What is between two rounds of the loop over a minute.
-/
import Derived.Test.YtlocdkjnefmiaaaMinute
namespace Go.Proofs.Ytlocdkjnefmiaaa
open Go.RowKit Go.Shelf
set_option linter.unusedVariables false
set_option linter.unusedSimpArgs false
attribute [local go_sem] Oper.semAt_some

/-- A climate whose temperature is a number of the machine. -/
abbrev Cw := { c : Cl // (Lit.int .i64 c.1).wf = true }
/-- Three blocks lie as they lay. -/
def Same3 (x y z : Nat) (A B : World) : Prop := B.heap[x]? = A.heap[x]? ∧ B.heap[y]? = A.heap[y]? ∧ B.heap[z]? = A.heap[z]?
theorem Same3.trans {x y z : Nat} {A B C : World} (h : Same3 x y z A B) (k : Same3 x y z B C) : Same3 x y z A C := ⟨k.1.trans h.1, k.2.1.trans h.2.1, k.2.2.trans h.2.2⟩
theorem boxed_same {A B : World} {b t : Nat} {v : Value} (h : Boxed A b t v) (e : B.heap[b]? = A.heap[b]?) : Boxed B b t v := e.trans h

set_option maxRecDepth 100000 in
set_option maxHeartbeats 2000000 in
theorem minute11_in (lo hi : Int) (h : Bool) (N : Nat) (hlo : -5000 ≤ lo) (hhi : hi ≤ 5000) (hN : N = (hi - lo + 1).toNat) (n l bl bh bt : Nat) (hn : 1 ≤ n) (J Jx : List Cw → World → Prop)
    (hY : ∀ pre x W, J pre W → pre.length < N → YieldAt Fence.wide (n - 1) Try.prog l #[Cl.val x.1] W fun e W' =>
      (e = .returned (.bool true) ∧ J (pre ++ [x]) W' ∧ Same3 bl bh bt W W') ∨ (e = .returned (.bool false) ∧ Jx (pre ++ [x]) W'))
    (W : World) (h1 : Boxed W bl 3 (.int .i64 lo)) (h2 : Boxed W bh 3 (.int .i64 hi)) (h3 : Boxed W bt 4 (.bool h)) (h0 : J [] W) :
    CallsIn Fence.wide n Try.prog 103 #[.func (.yield l) #[] #[], .pointer (some ⟨bl, 0, none⟩), .pointer (some ⟨bh, 0, none⟩), .pointer (some ⟨bt, 0, none⟩)] W fun e W' => (∃ v, e = .returned v) ∧
      ((∃ ys : List Cw, ys.map Subtype.val = spread lo h N ∧ J ys W') ∨ (∃ pre, True ∧ Jx pre W')) := by
  have e1 := h1.cell
  have H2 := hid h2
  have H3 := hid h3
  have HN := hid hN
  have HY := hid hY
  clear h1 h2 h3 hN hY
  refine callsIn_of_wp Try.func103 rfl trivial ?_ rfl
  simp only [Try.ntmps103, List.size_toArray, List.length_cons, List.length_nil, Nat.reduceAdd, Nat.reduceSub, Array.replicate_succ, Array.replicate_zero, List.push_toArray, List.append_toArray, List.nil_append, List.cons_append]
  gi_wp2
  gi_loopw [5] (fun t wr => ∃ (k : Nat) (pre : List Cw), pre.map Subtype.val = spread lo h k ∧ k ≤ N ∧ t = .int .i64 (lo + (k : Int)) ∧ J pre wr ∧ Boxed wr bh 3 (.int .i64 hi) ∧ Boxed wr bt 4 (.bool h)) (fun t _ => (hi + 1 - intOf t).toNat)
  case atStart => exact ⟨0, [], rfl, Nat.zero_le _, by simp, h0, H2.out, H3.out⟩
  case round =>
    obtain ⟨k, pre, hpre, hk, rfl, hJs, k2, k3⟩ := hrel
    have HP := hid hpre
    have hpl : pre.length = k := by rw [← List.length_map (f := Subtype.val), hpre, spread_len]
    clear hpre
    have c2 := k2.cell
    have c3 := k3.cell
    by_cases hlt : k < N
    · have hle : lo + (k : Int) ≤ hi := by have := HN.out; omega
      obtain ⟨fn, tmps, assign, body, hy, hR⟩ := HY.out pre ⟨(lo + (k : Int), h), WalkArith.wf_i64 (by dsimp only; omega)⟩ wr hJs (by omega)
      gi_wp2
      refine hR.mono ?_
      rintro e W3 (⟨rfl, hJ3, hk3⟩ | ⟨rfl, hJx3⟩)
      · gi_wp2
        go_roundw
        case rel => exact ⟨k + 1, _, by rw [List.map_append, HP.out, spread_succ]; rfl, by omega, by go_num, hJ3, boxed_same k2 hk3.2.1, boxed_same k3 hk3.2.2⟩
        case measure => simp [intOf]; omega
      · gi_wp2
        refine bodyPost_ret (results_none rfl _ _ _) rfl ?_
        exact ⟨⟨_, rfl⟩, .inr ⟨_, trivial, hJx3⟩⟩
    · obtain rfl : k = N := by omega
      have hle : ¬ lo + (k : Int) ≤ hi := by have := HN.out; omega
      gi_wp2
      go_end0
      exact ⟨⟨_, rfl⟩, .inl ⟨_, HP.out, hJs⟩⟩

theorem minute11_seq (lo hi : Int) (h : Bool) (N : Nat) (hlo : -5000 ≤ lo) (hhi : hi ≤ 5000) (hN : N = (hi - lo + 1).toNat) (n bl bh bt : Nat) (hn : 1 ≤ n) (w : World) (h1 : Boxed w bl 3 (.int .i64 lo)) (h2 : Boxed w bh 3 (.int .i64 hi)) (h3 : Boxed w bt 4 (.bool h)) :
    SeqO Fence.wide n Try.prog 103 #[.pointer (some ⟨bl, 0, none⟩), .pointer (some ⟨bh, 0, none⟩), .pointer (some ⟨bt, 0, none⟩)] (fun x : Cw => #[Cl.val x.1]) (fun _ => Same3 bl bh bt) (fun ys => ys.map Subtype.val = spread lo h N) (fun _ => True) N w := fun l J Jx W hW _ _ hJ _ hY h0 =>
  minute11_in lo hi h N hlo hhi hN n l bl bh bt hn J Jx (fun pre x V hv hl => (hY pre x V hv hl).mono fun e V' hr => hr.imp id (fun r => ⟨r.1, r.2.1⟩)) W (boxed_same h1 (hW.block _ h1.lt)) (boxed_same h2 (hW.block _ h2.lt)) (boxed_same h3 (hW.block _ h3.lt)) h0

/-! ### meet -/
def cellsC (xs : List Cl) : List Value := xs.flatMap fun c : Cl => [Value.int .i64 c.1, .bool c.2]
theorem cellsC_snoc (xs : List Cl) (c : Cl) : cellsC (xs ++ [c]) = cellsC xs ++ [Value.int .i64 c.1, .bool c.2] := by simp [cellsC]
theorem Try.infoC : (Try.prog.info? 116).map (fun i => (i.zero, i.size, i.bytes)) = some (some (.agg #[.int .i64 0, .bool false]), 2, 16) := by kernel_rfl
/-- The set of the climates of a list. -/
def inL (met : List Cl) (s : Int) (c : Bool) : Bool := decide ((s, c) ∈ met)
/-- Row v and map m hold what they hold; nothing else that lay in w has turned. -/
structure Turned (w w' : World) (m : Nat) (g : Option Nat) : Prop where
  os : w'.os = w.os
  tape : w'.tape = w.tape
  output : w'.output = w.output
  size : w.heap.size ≤ w'.heap.size
  block : ∀ k, k < w.heap.size → k ≠ m → some k ≠ g → w'.heap[k]? = w.heap[k]?
theorem Turned.of_below {w w' : World} (h : Below w.heap.size w w') (m : Nat) (g : Option Nat) : Turned w w' m g := ⟨h.os, h.tape, h.output, h.size, fun k hk _ _ => h.block k hk⟩
theorem two_new (W : World) (x y : Value) (t : TypeId) : ∀ (j : Nat) (u : Value), [x, y][j]? = some u → (W.alloc (.cells #[x, y] t)).cell? ((⟨W.heap.size, 0, none⟩ : Addr).add j) = some u := by
  intro j u h
  match j, h with
  | 0, h => simp at h; subst h; exact (Cel.new W #[x, y] t 0 x rfl).1
  | 1, h => simp at h; subst h; exact (Cel.new W #[x, y] t 1 y rfl).1
  | j + 2, h => simp at h

set_option maxRecDepth 100000 in
set_option maxHeartbeats 1000000 in
theorem meet_old (v : Value) (S : Int → Bool → Bool) (n m : Nat) (c : Cl) (hw : (Lit.int .i64 c.1).wf = true) (w : World) (hs : SetAt w 116 m n S) (hc : S c.1 c.2 = true) :
    Calls Try.prog 99 #[v, .map (some m), Cl.val c] w (Ret w v) := by
  obtain ⟨t, h⟩ := c
  have hl := (hs.alloc (.cells #[.int .i64 t, .bool h] 116)).look pairC Try.underlying137 hw h
  rw [hc] at hl
  go_enter Try.func99, Try.ntmps99
  go_wp2
  go_ret
  exact ⟨rfl, by (repeat (first | assumption | exact Below.refl _ _ | refine b_alloc ?_ _ | refine Below.drew ?_ | refine b_drewN ?_ _ | refine Below.setCell ?_ (by first | omega | (simp; done) | (simp; omega)) _ | refine b_call (by assumption) ?_))⟩

set_option maxRecDepth 100000 in
set_option maxHeartbeats 1000000 in
theorem meet_new (v : Value) (xs : List Cl) (S : Int → Bool → Bool) (n m base : Nat) (c : Cl) (hw : (Lit.int .i64 c.1).wf = true) (w : World) (hs : SetAt w 116 m n S) (hc : S c.1 c.2 = false) (hn : n ≤ 100000) (hx : xs.length ≤ 100000) (hbase : base ≤ w.heap.size)
    (hv : w.ownsRow base 116 2 v xs.length (cellsC xs)) (hm : some m ≠ v.ownBlock) :
    Calls Try.prog 99 #[v, .map (some m), Cl.val c] w fun e w' => ∃ v', e = .returned v' ∧ w'.ownsRow base 116 2 v' (xs ++ [c]).length (cellsC (xs ++ [c])) ∧ SetAt w' 116 m (n + 1) (fun s' c' => S s' c' || (s' == c.1 && c' == c.2)) ∧
      Turned w w' m v.ownBlock ∧ (v'.ownBlock = v.ownBlock ∨ ∃ g, v'.ownBlock = some g ∧ w.heap.size ≤ g) := by
  obtain ⟨t, h⟩ := c
  obtain ⟨iC, hiC, hzC0, hzC1, hzC2⟩ := info_parts Try.infoC
  have hl := (hs.alloc (.cells #[.int .i64 t, .bool h] 116)).look pairC Try.underlying137 hw h
  rw [hc] at hl
  have HS := hid hs
  have HV := hid hv
  have hml := hs.lt
  clear hs hv
  go_enter Try.func99, Try.ntmps99
  go_wp2_with (first
    | (at_mapUpdate; refine wpList_set_store _ rfl _ _ _ 137 rfl pairC Try.underlying137 _ _ _ rfl (HS.out.alloc _) (by unfold maxLen; omega) t h rfl rfl hw ?_; intro w2 hs2 hg2; have r0 := (Cel.grown (Cel.new w #[.int .i64 t, .bool h] 116 0 _ rfl) hg2 (fun r e => by cases e; omega)).1; have r1 := (Cel.grown (Cel.new w #[.int .i64 t, .bool h] 116 1 _ rfl) hg2 (fun r e => by cases e; omega)).1; have hv2 := (HV.out.alloc (.cells #[.int .i64 t, .bool h] 116)).kept hg2 (.inr (fun e => hm e.symm)); have HS2 := hid hs2; have hz2 := hg2.size; clear hs2)
    | (at_builtin; refine wpList_append_own_at _ rfl _ _ 138 rfl base 116 iC (.agg #[.int .i64 0, .bool false]) 2 16 Try.underlying138 hiC hzC0 hzC1 hzC2 rfl (by decide) _ _ _ rfl (hv2.alloc _) ⟨w2.heap.size, 0, none⟩ 1 1 [.int .i64 t, .bool h] rfl rfl (two_new _ _ _ _) (by intro u hu; simp at hu; rcases hu with rfl | rfl <;> rfl) (by unfold maxLen; omega) (by omega) (by have h9 := hz2; simp at h9 ⊢; omega) ?_; intro v' w3 hown3 hg3 hnil hat))
  go_ret
  have hnb : ∀ g, v.ownBlock = some g → g < w.heap.size ∧ base ≤ g := fun g e => ⟨(HV.out.lt g e).2, (HV.out.lt g e).1⟩
  have h9 := hz2
  rw [World.size_alloc] at h9
  refine ⟨v', rfl, ?_, ?_, ⟨?_, ?_, ?_, ?_, ?_⟩, ?_⟩
  · rw [cellsC_snoc]; exact hown3
  · exact (HS2.out.alloc _).kept hg3 hm
  · rw [hg3.os]; exact hg2.os
  · rw [hg3.tape]; exact hg2.tape
  · rw [hg3.output]; exact hg2.output
  · have := hg3.size; rw [World.size_alloc] at this; omega
  · intro k hk hkm hkg
    rw [hg3.block k (by simp; omega) hkg, Below.heap_alloc _ _ _ (by omega), hg2.block k (by simp; omega) (by simpa using hkm), Below.heap_alloc _ _ _ hk]
  · rcases hat with e | e
    · exact .inl e
    · exact .inr ⟨_, e, by simp; omega⟩
end Go.Proofs.Ytlocdkjnefmiaaa
namespace Go.Proofs.Ytlocdkjnefmiaaa
open Go.RowKit Go.Shelf
set_option linter.unusedVariables false
set_option linter.unusedSimpArgs false

abbrev Cls := List Cl × List Cl
def add1 (st : Cls) (c : Cl) : Cls := if c ∈ st.2 then st else (st.1 ++ [c], st.2 ++ [c])
def meetL (st : Cls) (cs : List Cl) : Cls := cs.foldl add1 st
theorem meetL_snoc (st : Cls) (cs : List Cl) (c : Cl) : meetL st (cs ++ [c]) = add1 (meetL st cs) c := by simp [meetL]
theorem meetL_app (st : Cls) (cs ds : List Cl) : meetL st (cs ++ ds) = meetL (meetL st cs) ds := by simp [meetL]
def nextL (o : Ov) (st : Cls) : Cls := meetL ([], st.2) (st.1.flatMap (stepsOf o))
def stateAt (o : Ov) (s0 : Cls) : Nat → Cls
  | 0 => s0
  | k + 1 => nextL o (stateAt o s0 k)
def beginL (lo : Int) (h : Bool) (k : Nat) : Cls := meetL ([], []) (spread lo h k)
theorem beginL_succ (lo : Int) (h : Bool) (k : Nat) : beginL lo h (k + 1) = add1 (beginL lo h k) (lo + (k : Int), h) := by rw [beginL, spread_succ, meetL_snoc]; rfl
/-- Each climate with the minutes after which it is met, for the first k of them. -/
def yieldsTo (o : Ov) (s0 : Cls) (k : Nat) : List (Nat × Cl) := (List.range k).flatMap fun j => (stateAt o s0 j).1.map fun c => (j, c)
theorem yieldsTo_succ (o : Ov) (s0 : Cls) (k : Nat) : yieldsTo o s0 (k + 1) = yieldsTo o s0 k ++ (stateAt o s0 k).1.map fun c => (k, c) := by simp [yieldsTo, List.range_succ]

theorem yieldsTo_pre (o : Ov) (s0 : Cls) (k : Nat) : ∀ d, yieldsTo o s0 k <+: yieldsTo o s0 (k + d)
  | 0 => List.prefix_refl _
  | d + 1 => (yieldsTo_pre o s0 k d).trans (by rw [← Nat.add_assoc, yieldsTo_succ]; exact List.prefix_append _ _)
abbrev Cbd (c : Cl) : Prop := -600 ≤ c.1 ∧ c.1 ≤ 1100
structure Good (st : Cls) : Prop where
  nodup : st.2.Nodup
  bd : ∀ c ∈ st.2, Cbd c
  len : st.1.length ≤ st.2.length
  sub : ∀ c ∈ st.1, c ∈ st.2
theorem Good.add {st : Cls} (h : Good st) {c : Cl} (hc : Cbd c) : Good (add1 st c) := by
  unfold add1
  by_cases e : c ∈ st.2
  · rw [if_pos e]; exact h
  · rw [if_neg e]
    refine ⟨?_, ?_, by simp; exact h.len, ?_⟩
    · refine List.nodup_append.2 ⟨h.nodup, by simp, ?_⟩
      intro a ha b hb; simp at hb; subst hb; intro e'; subst e'; exact e ha
    · intro d hd
      rcases List.mem_append.1 hd with hd | hd
      · exact h.bd d hd
      · simp at hd; subst hd; exact hc
    · intro d hd
      rcases List.mem_append.1 hd with hd | hd
      · exact List.mem_append_left _ (h.sub d hd)
      · exact List.mem_append_right _ hd
theorem Good.meets {cs : List Cl} : ∀ {st : Cls}, Good st → (∀ c ∈ cs, Cbd c) → Good (meetL st cs) := by
  induction cs with
  | nil => intro st h _; exact h
  | cons c cs ih => intro st h hc; exact ih (h.add (hc c (by simp))) (fun d hd => hc d (by simp [hd]))
theorem Good.drop {st : Cls} (h : Good st) : Good ([], st.2) := ⟨h.nodup, h.bd, by simp, by simp⟩
theorem nodup_lt : ∀ (n : Nat) (l : List Nat), l.Nodup → (∀ x ∈ l, x < n) → l.length ≤ n := by
  intro n
  induction n with
  | zero => intro l _ h; cases l with | nil => simp | cons a l => exact absurd (h a (by simp)) (by omega)
  | succ n ih =>
    intro l hl h
    by_cases e : n ∈ l
    · have h1 := ih (l.erase n) (hl.erase n) (fun x hx => by
        have h2 := h x (List.mem_of_mem_erase hx)
        have h3 : x ≠ n := (hl.mem_erase_iff.1 hx).1
        omega)
      rw [List.length_erase_of_mem e] at h1
      omega
    · have := ih l hl (fun x hx => by have h2 := h x hx; have h3 : x ≠ n := fun e' => e (e' ▸ hx); omega)
      omega
def codeOf (c : Cl) : Nat := (c.1 + 600).toNat * 2 + (if c.2 then 1 else 0)
theorem Good.few {st : Cls} (h : Good st) : st.2.length ≤ 3402 := by
  have h1 : (st.2.map codeOf).Nodup := by
    refine List.Pairwise.map codeOf (fun a b hab => ?_) (List.Pairwise.imp_of_mem (fun {a b} ha hb hab => ?_) h.nodup : List.Pairwise (fun a b => Cbd a ∧ Cbd b ∧ a ≠ b) st.2)
    · obtain ⟨ba, bb, hne⟩ := hab
      intro e
      apply hne
      obtain ⟨a1, a2⟩ := a
      obtain ⟨b1, b2⟩ := b
      simp only [codeOf] at e
      have x1 := ba.1; have x2 := bb.1
      simp only at x1 x2
      cases a2 <;> cases b2 <;> simp at e ⊢ <;> omega
    · exact ⟨h.bd a ha, h.bd b hb, hab⟩
  have h2 := nodup_lt 3402 _ h1 (fun x hx => by
    obtain ⟨c, hc, rfl⟩ := List.mem_map.1 hx
    have := h.bd c hc
    unfold codeOf
    split <;> omega)
  simpa using h2
theorem steps_bd {o : Ov} (ho : o.Ok) {c : Cl} (hc : Cbd c) : ∀ d ∈ stepsOf o c, Cbd d := by
  intro d hd
  obtain ⟨j, hj, rfl⟩ := List.mem_map.1 hd
  have hj' := List.mem_range.1 hj
  obtain ⟨⟨t1, t2, w, k⟩, h1, h2, h3⟩ := ho
  obtain ⟨t, b⟩ := c
  unfold manyAt lowAt highAt at hj'
  unfold lowAt
  unfold Cbd at *
  cases e : heatsAt o (t, b)
  · rw [e] at hj'
    simp [heatsAt] at e
    simp at hj' hc ⊢
    have := t1.1; have := t1.2; have := k.1.1; have := k.1.2; have := k.2.1; have := k.2.2
    omega
  · rw [e] at hj'
    simp [heatsAt] at e
    simp at hj' hc ⊢
    have := t2.1; have := t2.2; have := t1.1; have := t1.2; have := w.1.1; have := w.1.2; have := w.2.1; have := w.2.2
    rcases e with e | ⟨e, _⟩ <;> omega
theorem Good.next {o : Ov} (ho : o.Ok) {st : Cls} (h : Good st) : Good (nextL o st) :=
  h.drop.meets fun c hc => by
    obtain ⟨d, hd, hc⟩ := List.mem_flatMap.1 hc
    exact steps_bd ho (h.bd d (h.sub d hd)) c hc
theorem Good.at_ {o : Ov} (ho : o.Ok) {s0 : Cls} (h : Good s0) : ∀ k, Good (stateAt o s0 k)
  | 0 => h
  | k + 1 => (Good.at_ ho h k).next ho
theorem Good.begin {lo : Int} {h : Bool} {k : Nat} (h1 : -600 ≤ lo) (h2 : lo + k ≤ 1101) : Good (beginL lo h k) :=
  Good.meets ⟨by simp, by simp, by simp, by simp⟩ fun c hc => by
    obtain ⟨j, hj, rfl⟩ := List.mem_map.1 hc
    have := List.mem_range.1 hj
    simp only [Cbd]; omega
/-- How far a minute has come: i climates are done. -/
def partL (o : Ov) (st : Cls) (i : Nat) : Cls := meetL ([], st.2) ((st.1.take i).flatMap (stepsOf o))
theorem partL_zero (o : Ov) (st : Cls) : partL o st 0 = ([], st.2) := by simp [partL, meetL]
theorem partL_all (o : Ov) (st : Cls) : partL o st st.1.length = nextL o st := by simp [partL, nextL]
theorem partL_succ (o : Ov) (st : Cls) (i : Nat) (h : i < st.1.length) : partL o st (i + 1) = meetL (partL o st i) (stepsOf o st.1[i]) := by
  have e : st.1.take (i + 1) = st.1.take i ++ [st.1[i]] := by rw [List.take_add_one, List.getElem?_eq_getElem h]; rfl
  have e2 : List.flatMap (stepsOf o) [st.1[i]] = stepsOf o st.1[i] := by simp
  rw [partL, partL, e, List.flatMap_append, meetL_app, e2]
theorem Good.part {o : Ov} (ho : o.Ok) {st : Cls} (h : Good st) (i : Nat) : Good (partL o st i) :=
  h.drop.meets fun c hc => by
    obtain ⟨d, hd, hc⟩ := List.mem_flatMap.1 hc
    exact steps_bd ho (h.bd d (h.sub d (List.mem_of_mem_take hd))) c hc
theorem meetL_grow (cs : List Cl) : ∀ st : Cls, (meetL st cs).1.length ≤ st.1.length + cs.length ∧ (meetL st cs).2.length ≤ st.2.length + cs.length := by
  induction cs with
  | nil => intro st; simp [meetL]
  | cons c cs ih =>
    intro st
    have := ih (add1 st c)
    have h2 : (add1 st c).1.length ≤ st.1.length + 1 ∧ (add1 st c).2.length ≤ st.2.length + 1 := by unfold add1; split <;> simp
    simp only [List.length_cons]
    show (meetL (add1 st c) cs).1.length ≤ _ ∧ (meetL (add1 st c) cs).2.length ≤ _
    omega
theorem inL_snoc (met : List Cl) (c : Cl) (s : Int) (b : Bool) : inL (met ++ [c]) s b = (inL met s b || (s == c.1 && b == c.2)) := by
  obtain ⟨t, h⟩ := c
  unfold inL
  rw [Bool.eq_iff_iff]
  simp
theorem low_bd {o : Ov} (ho : o.Ok) {c : Cl} (hc : Cbd c) : -5000 ≤ lowAt o c ∧ highAt o c ≤ 5000 := by
  obtain ⟨⟨_, _, w, k⟩, _, _⟩ := ho
  have := k.1.1; have := k.1.2; have := k.2.1; have := k.2.2; have := w.1.1; have := w.1.2; have := w.2.1; have := w.2.2; have := hc.1; have := hc.2
  unfold lowAt highAt
  split <;> omega
theorem many_few {o : Ov} (ho : o.Ok) (c : Cl) : manyAt o c ≤ 101 := by
  obtain ⟨_, h2, h3⟩ := ho
  rename_i h1
  obtain ⟨_, _, w, k⟩ := h1
  unfold manyAt lowAt highAt
  have := k.1.1; have := k.1.2; have := k.2.1; have := k.2.2; have := w.1.1; have := w.1.2; have := w.2.1; have := w.2.2
  split <;> omega
end Go.Proofs.Ytlocdkjnefmiaaa
namespace Go.Proofs.Ytlocdkjnefmiaaa
open Go.RowKit Go.Shelf
set_option linter.unusedVariables false
set_option linter.unusedSimpArgs false

/-- A slice and a map hold what has been met. -/
structure MetAt (W : World) (base m : Nat) (v : Value) (st : Cls) : Prop where
  row : W.ownsRow base 116 2 v st.1.length (cellsC st.1)
  set : SetAt W 116 m st.2.length (inL st.2)
  apart : some m ≠ v.ownBlock
theorem MetAt.turned {W W' : World} {base m : Nat} {v : Value} {st : Cls} (h : MetAt W base m v st) {row : Option Nat} (hg : W.grownBy W' row) (h1 : row ≠ some m) (h2 : ∀ g, v.ownBlock = some g → row ≠ some g) : MetAt W' base m v st :=
  ⟨h.row.kept hg (by
    cases e : v.ownBlock with
    | none => exact .inl rfl
    | some g => exact .inr (fun e' => h2 g e e'.symm)), h.set.kept hg (fun e => h1 e.symm), h.apart⟩
theorem MetAt.below {W W' : World} {base m : Nat} {v : Value} {st : Cls} (h : MetAt W base m v st) (hb : Below W.heap.size W W') : MetAt W' base m v st := h.turned (grown_of_below hb) (by simp) (by simp)
theorem meet_any (v : Value) (st : Cls) (m base : Nat) (c : Cl) (hw : (Lit.int .i64 c.1).wf = true) (w : World) (h : MetAt w base m v st) (h1 : st.1.length ≤ 100000) (h2 : st.2.length ≤ 100000) (hbase : base ≤ w.heap.size) :
    Calls Try.prog 99 #[v, .map (some m), Cl.val c] w fun e w' => ∃ v', e = .returned v' ∧ MetAt w' base m v' (add1 st c) ∧ Turned w w' m v.ownBlock ∧ (v'.ownBlock = v.ownBlock ∨ ∃ g, v'.ownBlock = some g ∧ w.heap.size ≤ g) := by
  by_cases hc : c ∈ st.2
  · refine (meet_old v (inL st.2) st.2.length m c hw w h.set (by simp [inL, hc])).mono ?_
    rintro e w' ⟨rfl, hb⟩
    refine ⟨v, rfl, ?_, Turned.of_below hb _ _, .inl rfl⟩
    rw [add1, if_pos hc]
    exact h.below hb
  · refine (meet_new v st.1 (inL st.2) st.2.length m base c hw w h.set (by simp [inL, hc]) h2 h1 hbase h.row h.apart).mono ?_
    rintro e w' ⟨v', rfl, k1, k2, k3, k4⟩
    refine ⟨v', rfl, ?_, k3, k4⟩
    rw [add1, if_neg hc]
    refine ⟨k1, ?_, ?_⟩
    · show SetAt w' _ m (st.2 ++ [c]).length (inL (st.2 ++ [c]))
      rw [List.length_append]
      exact k2.congr fun s b => (inL_snoc _ _ _ _).symm
    · rcases k4 with e | ⟨g, e, hg⟩
      · rw [e]; exact h.apart
      · rw [e]; intro e'; cases e'; have := h.set.lt; omega

theorem cellsC_get : ∀ (xs : List Cl) (j : Nat) (hj : j < xs.length), (cellsC xs)[j * 2]? = some (.int .i64 xs[j].1) ∧ (cellsC xs)[j * 2 + 1]? = some (.bool xs[j].2)
  | c :: cs, 0, _ => by simp [cellsC]
  | c :: cs, j + 1, hj => by
    have := cellsC_get cs j (by simpa using hj)
    have e1 : (j + 1) * 2 = j * 2 + 1 + 1 := by omega
    rw [e1]
    simpa [cellsC] using this
theorem MetAt.slice {W : World} {base m : Nat} {v : Value} {st : Cls} (h : MetAt W base m v st) : ∃ a c, v = .slice a st.1.length c ∧ ∀ j (hj : j < st.1.length), ∃ g, a = some ⟨g, 0, none⟩ ∧ W.cell? ⟨g, j * 2, none⟩ = some (.int .i64 st.1[j].1) ∧ W.cell? ⟨g, j * 2 + 1, none⟩ = some (.bool st.1[j].2) := by
  rcases h.row.2 with ⟨e, h0⟩ | ⟨g, c, cur, e, _⟩
  · exact ⟨none, 0, by rw [e, h0], fun j hj => by rw [h0] at hj; omega⟩
  · subst e
    refine ⟨some ⟨g, 0, none⟩, c, rfl, fun j hj => ⟨g, rfl, ?_, ?_⟩⟩
    · exact (h.row.cellAt (j * 2) (by omega)).trans (cellsC_get st.1 j hj).1
    · exact (h.row.cellAt (j * 2 + 1) (by omega)).trans (cellsC_get st.1 j hj).2
theorem MetAt.kept {X : Nat → Prop} {W W' : World} {base m : Nat} {v : Value} {st : Cls} (h : MetAt W base m v st) (hk : Kept X W W') (hm : ¬ X m) (hx : ∀ k, X k → k < base) : MetAt W' base m v st :=
  ⟨⟨h.row.1, h.row.2.imp id (fun ⟨g, cap, cur, e, hg, hh, r⟩ => ⟨g, cap, cur, e, hg, hk.same g _ hh (fun r e => by cases e) (fun x => by have := hx g x; omega), r⟩)⟩,
    let ⟨D, ⟨es, clock, hb, F⟩, h2⟩ := h.set; ⟨D, ⟨es, clock, hk.same m _ hb (fun r e => by cases e) hm, F⟩, h2⟩, h.apart⟩
theorem MetAt.cells {W : World} {base m : Nat} {v : Value} {st : Cls} (h : MetAt W base m v st) {g : Nat} (e : v.ownBlock = some g) : ∃ x, W.heap[g]? = some x ∧ x.isCells = true ∧ base ≤ g := by
  rcases h.row.2 with ⟨e', _⟩ | ⟨g', c, cur, e', hb, hh, _⟩
  · rw [e'] at e; cases e
  · rw [e'] at e; cases e; exact ⟨_, hh, rfl, hb⟩
theorem MetAt.map {W : World} {base m : Nat} {v : Value} {st : Cls} (h : MetAt W base m v st) : ∃ x, W.heap[m]? = some x ∧ x.isCells = false ∧ ∀ ds, x ≠ .deferred ds := by
  obtain ⟨D, ⟨es, clock, hb, F⟩, h2⟩ := h.set
  exact ⟨_, hb, rfl, fun ds e => by cases e⟩

/-- The marks that loops over iterators have left: their blocks' numbers. -/
def marks (Ds : List Nat) : List Deferred := Ds.map fun D => { target := .collected D, args := #[] }
/-- Nothing was deferred in any of them. -/
def Marks (s : Nat) (Ds : List Nat) (W : World) : Prop := Ds.Nodup ∧ ∀ D ∈ Ds, s ≤ D ∧ W.heap[D]? = some (.deferred (some []))
theorem Marks.grown {s : Nat} {Ds : List Nat} {A B : World} {row : Option Nat} (h : Marks s Ds A) (hg : A.grownBy B row) (hr : ∀ r, row = some r → r ∉ Ds) : Marks s Ds B :=
  ⟨h.1, fun D hD => ⟨(h.2 D hD).1, (hg.block D (Array.getElem?_eq_some_iff.1 (h.2 D hD).2).1 (fun e => hr D e.symm hD)).trans (h.2 D hD).2⟩⟩
theorem Marks.kept {s : Nat} {Ds : List Nat} {A B : World} {X : Nat → Prop} (h : Marks s Ds A) (hk : Kept X A B) (hx : ∀ k, X k → k < s) : Marks s Ds B :=
  ⟨h.1, fun D hD => ⟨(h.2 D hD).1, hk.same D _ (h.2 D hD).2 (fun r e => by cases e) (fun x => by have := hx D x; have := (h.2 D hD).1; omega)⟩⟩
theorem leaves_marks {F : Fence} {n : Nat} {P : Program} {fn : Func} {tmps : Array Value} {R : Ending → World → Prop} {s : Nat} (Q : World → Prop) (hQ : ∀ W D, s ≤ D → W.heap[D]? = some (.deferred (some [])) → Q W → Q (W.putObj D (.deferred none))) :
    ∀ (Ds : List Nat) (W : World), Marks s Ds W → Q W → (∀ W', Q W' → LeavesIn F n P fn tmps R [] .returning W') → LeavesInM F n P fn tmps R (marks Ds) .returning W
  | [], W, _, hq, hf => hf W hq
  | D :: Ds, W, hm, hq, hf => by
    have h1 := hm.2 D (by simp)
    refine ⟨by simp, .inl ⟨D, _, rfl, run_takeDeferred h1.2, ?_⟩⟩
    have hn := List.nodup_cons.1 hm.1
    refine leaves_marks Q hQ Ds _ ⟨hn.2, fun E hE => ⟨(hm.2 E (by simp [hE])).1, ?_⟩⟩ (hQ W D h1.1 h1.2 hq) hf
    exact (World.putObj_heap_other (fun e => hn.1 (by rw [← e]; exact hE))).trans (hm.2 E (by simp [hE])).2


structure StepI (s nb bl bh bt : Nat) (wr w5 : World) (Es : List Nat) (cur : Cls) (pre : List Cw) (W' : World) : Prop where
  next : ∃ nv, Boxed W' nb 138 nv ∧ MetAt W' s (s + 1) nv (meetL cur (pre.map Subtype.val)) ∧ ∀ g, nv.ownBlock = some g → nb < g ∧ g ≠ bl ∧ g ≠ bh ∧ g ≠ bt
  box : Boxed W' (s + 1 + 1) 137 (.map (some (s + 1)))
  since : wr.grownBy W' (some (s + 1))
  marks : Marks s Es W'
  size : w5.heap.size ≤ W'.heap.size
theorem stepI_own {s nb bl bh bt : Nat} {wr w5 : World} {Es : List Nat} {cur : Cls} (h1 : wr.heap.size ≤ w5.heap.size) (h2 : nb < w5.heap.size) (h3 : s + 3 ≤ nb) (h4 : ∀ D ∈ Es, D < w5.heap.size) : OwnFrom w5.heap.size (StepI s nb bl bh bt wr w5 Es cur) := by
  intro pre A B row h hg hr
  obtain ⟨⟨nv, n1, n2, n3⟩, k2, k3, k4, k5⟩ := h
  refine ⟨⟨nv, n1.kept hg (fun e => by have := (hr _ e.symm).1; omega), n2.turned hg (fun e => by have := (hr _ e).1; omega) (fun g e e' => ?_), n3⟩, k2.kept hg (fun e => by have := (hr _ e.symm).1; omega),
    ⟨hg.os.trans k3.os, hg.tape.trans k3.tape, hg.output.trans k3.output, Nat.le_trans k3.size hg.size, fun k hk hne => (hg.block k (by have := k3.size; omega) (fun e => by have := (hr _ e.symm).1; omega)).trans (k3.block k hk hne)⟩,
    k4.grown hg (fun r e hD => by have := (hr r e).1; have := h4 r hD; omega), Nat.le_trans k5 hg.size⟩
  obtain ⟨_, x, hx, hc⟩ := hr g e'
  obtain ⟨y, hy, hyc, _⟩ := n2.cells e
  rw [hx] at hy; cases hy; rw [hc] at hyc; cases hyc
theorem step_next {s nb bl bh bt : Nat} {wr w5 W' w6 : World} {Es : List Nat} {cur : Cls} {pre : List Cw} {x : Cw} {nv v6 : Value} (hwr : wr.heap.size = nb) (h3 : s + 3 ≤ nb) (h5 : w5.heap.size ≤ W'.heap.size) (h2 : nb < w5.heap.size)
    (hl : (nb < bl ∧ nb < bh ∧ nb < bt) ∧ bl < w5.heap.size ∧ bh < w5.heap.size ∧ bt < w5.heap.size) (hbox : Boxed W' nb 138 nv) (hmt : MetAt W' s (s + 1) nv (meetL cur (pre.map Subtype.val))) (hgs : ∀ g, nv.ownBlock = some g → nb < g ∧ g ≠ bl ∧ g ≠ bh ∧ g ≠ bt)
    (hmb : Boxed W' (s + 1 + 1) 137 (.map (some (s + 1)))) (hgw : wr.grownBy W' (some (s + 1))) (hmk : Marks s Es W')
    (hm6 : MetAt w6 s (s + 1) v6 (add1 (meetL cur (pre.map Subtype.val)) x.1)) (ht : Turned W' w6 (s + 1) nv.ownBlock) (hor : v6.ownBlock = nv.ownBlock ∨ ∃ g, v6.ownBlock = some g ∧ W'.heap.size ≤ g) :
    KeepsFrom w5.heap.size W' (w6.setCell ⟨nb, 0, none⟩ v6) ∧ Same3 bl bh bt W' (w6.setCell ⟨nb, 0, none⟩ v6) ∧ StepI s nb bl bh bt wr w5 Es cur (pre ++ [x]) (w6.setCell ⟨nb, 0, none⟩ v6) := by
  have hg7 := grownBy_setCell' w6 nb v6
  have hsz := ht.size
  have same : ∀ k, k < W'.heap.size → k ≠ s + 1 → some k ≠ nv.ownBlock → k ≠ nb → (w6.setCell ⟨nb, 0, none⟩ v6).heap[k]? = W'.heap[k]? := fun k a b c d =>
    (hg7.block k (by omega) (by simpa using d)).trans (ht.block k a b c)
  have ng : ∀ k, k ≤ nb → some k ≠ nv.ownBlock := fun k hk e => by have := (hgs k e.symm).1; omega
  have hcells : ∀ k o, W'.heap[k]? = some o → o.isCells = false → some k ≠ nv.ownBlock := fun k o hk ho e => by
    obtain ⟨y, hy, hyc, _⟩ := hmt.cells e.symm
    rw [hk] at hy; cases hy; rw [ho] at hyc; cases hyc
  have hv6 : ∀ g, v6.ownBlock = some g → nb < g ∧ g ≠ bl ∧ g ≠ bh ∧ g ≠ bt := fun g e => by
    rcases hor with e' | ⟨g', e', hg'⟩
    · exact hgs g (e'.symm.trans e)
    · rw [e'] at e; cases e; omega
  refine ⟨⟨Nat.le_trans hsz hg7.size, fun k o hk ho hc => (same k (Array.getElem?_eq_some_iff.1 ho).1 (by omega) (hcells k o ho hc) (by omega)).trans ho⟩,
    ⟨same bl (by omega) (by omega) (fun e => (hgs bl e.symm).2.1 rfl) (by omega), same bh (by omega) (by omega) (fun e => (hgs bh e.symm).2.2.1 rfl) (by omega), same bt (by omega) (by omega) (fun e => (hgs bt e.symm).2.2.2 rfl) (by omega)⟩,
    ⟨⟨v6, Boxed.set v6 (boxed_same hbox (ht.block nb (by omega) (by omega) (ng nb (Nat.le_refl _)))), ?_, hv6⟩, ?_, ?_, ?_, ?_⟩⟩
  · rw [List.map_append, show ([x] : List Cw).map Subtype.val = [x.1] from rfl, meetL_snoc]
    exact hm6.turned hg7 (fun e => by cases e; omega) (fun g e e' => by cases e'; have := (hv6 nb e).1; omega)
  · exact boxed_same hmb (same _ (by omega) (by omega) (ng _ (by omega)) (by omega))
  · exact ⟨hg7.os.trans (ht.os.trans hgw.os), hg7.tape.trans (ht.tape.trans hgw.tape), hg7.output.trans (ht.output.trans hgw.output), Nat.le_trans hgw.size (Nat.le_trans hsz hg7.size), fun k hk hne => (same k (by omega) (by simpa using hne) (ng k (by omega)) (by omega)).trans (hgw.block k hk hne)⟩
  · refine ⟨hmk.1, fun D hD => ⟨(hmk.2 D hD).1, ?_⟩⟩
    have hd := (hmk.2 D hD).2
    refine (same D (Array.getElem?_eq_some_iff.1 hd).1 (fun e => ?_) (hcells D _ hd rfl) (fun e => ?_)).trans hd
    · subst e
      obtain ⟨y, hy, _, hyd⟩ := hmt.map
      rw [hd] at hy; cases hy; exact hyd _ rfl
    · subst e
      rw [show W'.heap[D]? = _ from hbox] at hd; cases hd
  · exact Nat.le_trans h5 (Nat.le_trans hsz hg7.size)
end Go.Proofs.Ytlocdkjnefmiaaa
