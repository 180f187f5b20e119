/-
  The iterator over what a climate can become in a minute; meet.
-/
import Derived.Test.YtggkhddficmnfaaMinute
namespace Go.Proofs.Ytggkhddficmnfaa
open Go.RowKit Go.Shelf
set_option linter.unusedVariables false
set_option linter.unusedSimpArgs false
attribute [local go_sem] Oper.semAt_some

/-- A climate whose temperature is a number of the machine. -/
abbrev Cw := { c : Cl // (Lit.int .i64 c.1).wf = true }
/-- Three blocks lie as they lay. -/
def Same3 (x y z : Nat) (A B : World) : Prop := B.heap[x]? = A.heap[x]? ∧ B.heap[y]? = A.heap[y]? ∧ B.heap[z]? = A.heap[z]?
theorem Same3.trans {x y z : Nat} {A B C : World} (h : Same3 x y z A B) (k : Same3 x y z B C) : Same3 x y z A C := ⟨k.1.trans h.1, k.2.1.trans h.2.1, k.2.2.trans h.2.2⟩
theorem boxed_same {A B : World} {b t : Nat} {v : Value} (h : Boxed A b t v) (e : B.heap[b]? = A.heap[b]?) : Boxed B b t v := e.trans h

set_option maxRecDepth 100000 in
set_option maxHeartbeats 2000000 in
theorem minute11_in (lo hi : Int) (h : Bool) (N : Nat) (hlo : -5000 ≤ lo) (hhi : hi ≤ 5000) (hN : N = (hi - lo + 1).toNat) (n l bl bh bt : Nat) (hn : 1 ≤ n) (J Jx : List Cw → World → Prop)
    (hY : ∀ pre x W, J pre W → pre.length < N → YieldAt Fence.wide (n - 1) Try.prog l #[Cl.val x.1] W fun e W' =>
      (e = .returned (.bool true) ∧ J (pre ++ [x]) W' ∧ Same3 bl bh bt W W') ∨ (e = .returned (.bool false) ∧ Jx (pre ++ [x]) W'))
    (W : World) (h1 : Boxed W bl 3 (.int .i64 lo)) (h2 : Boxed W bh 3 (.int .i64 hi)) (h3 : Boxed W bt 4 (.bool h)) (h0 : J [] W) :
    CallsIn Fence.wide n Try.prog 103 #[.func (.yield l) #[] #[], .pointer (some ⟨bl, 0, none⟩), .pointer (some ⟨bh, 0, none⟩), .pointer (some ⟨bt, 0, none⟩)] W fun e W' => (∃ v, e = .returned v) ∧
      ((∃ ys : List Cw, ys.map Subtype.val = spread lo h N ∧ J ys W') ∨ (∃ pre, True ∧ Jx pre W')) := by
  have e1 := h1.cell
  have H2 := hid h2
  have H3 := hid h3
  have HN := hid hN
  have HY := hid hY
  clear h1 h2 h3 hN hY
  refine callsIn_of_wp Try.func103 rfl trivial ?_ rfl
  simp only [Try.ntmps103, List.size_toArray, List.length_cons, List.length_nil, Nat.reduceAdd, Nat.reduceSub, Array.replicate_succ, Array.replicate_zero, List.push_toArray, List.append_toArray, List.nil_append, List.cons_append]
  gi_wp2
  gi_loopw [5] (fun t wr => ∃ (k : Nat) (pre : List Cw), pre.map Subtype.val = spread lo h k ∧ k ≤ N ∧ t = .int .i64 (lo + (k : Int)) ∧ J pre wr ∧ Boxed wr bh 3 (.int .i64 hi) ∧ Boxed wr bt 4 (.bool h)) (fun t _ => (hi + 1 - intOf t).toNat)
  case atStart => exact ⟨0, [], rfl, Nat.zero_le _, by simp, h0, H2.out, H3.out⟩
  case round =>
    obtain ⟨k, pre, hpre, hk, rfl, hJs, k2, k3⟩ := hrel
    have HP := hid hpre
    have hpl : pre.length = k := by rw [← List.length_map (f := Subtype.val), hpre, spread_len]
    clear hpre
    have c2 := k2.cell
    have c3 := k3.cell
    by_cases hlt : k < N
    · have hle : lo + (k : Int) ≤ hi := by have := HN.out; omega
      obtain ⟨fn, tmps, assign, body, hy, hR⟩ := HY.out pre ⟨(lo + (k : Int), h), WalkArith.wf_i64 (by dsimp only; omega)⟩ wr hJs (by omega)
      gi_wp2
      refine hR.mono ?_
      rintro e W3 (⟨rfl, hJ3, hk3⟩ | ⟨rfl, hJx3⟩)
      · gi_wp2
        go_roundw
        case rel => exact ⟨k + 1, _, by rw [List.map_append, HP.out, spread_succ]; rfl, by omega, by go_num, hJ3, boxed_same k2 hk3.2.1, boxed_same k3 hk3.2.2⟩
        case measure => simp [intOf]; omega
      · gi_wp2
        refine bodyPost_ret (results_none rfl _ _ _) rfl ?_
        exact ⟨⟨_, rfl⟩, .inr ⟨_, trivial, hJx3⟩⟩
    · obtain rfl : k = N := by omega
      have hle : ¬ lo + (k : Int) ≤ hi := by have := HN.out; omega
      gi_wp2
      go_end0
      exact ⟨⟨_, rfl⟩, .inl ⟨_, HP.out, hJs⟩⟩

theorem minute11_seq (lo hi : Int) (h : Bool) (N : Nat) (hlo : -5000 ≤ lo) (hhi : hi ≤ 5000) (hN : N = (hi - lo + 1).toNat) (n bl bh bt : Nat) (hn : 1 ≤ n) (w : World) (h1 : Boxed w bl 3 (.int .i64 lo)) (h2 : Boxed w bh 3 (.int .i64 hi)) (h3 : Boxed w bt 4 (.bool h)) :
    SeqO Fence.wide n Try.prog 103 #[.pointer (some ⟨bl, 0, none⟩), .pointer (some ⟨bh, 0, none⟩), .pointer (some ⟨bt, 0, none⟩)] (fun x : Cw => #[Cl.val x.1]) (fun _ => Same3 bl bh bt) (fun ys => ys.map Subtype.val = spread lo h N) (fun _ => True) N w := fun l J Jx W hW _ _ hJ _ hY h0 =>
  minute11_in lo hi h N hlo hhi hN n l bl bh bt hn J Jx (fun pre x V hv hl => (hY pre x V hv hl).mono fun e V' hr => hr.imp id (fun r => ⟨r.1, r.2.1⟩)) W (boxed_same h1 (hW.block _ h1.lt)) (boxed_same h2 (hW.block _ h2.lt)) (boxed_same h3 (hW.block _ h3.lt)) h0

/-! ### meet -/
def cellsC (xs : List Cl) : List Value := xs.flatMap fun c : Cl => [Value.int .i64 c.1, .bool c.2]
theorem cellsC_snoc (xs : List Cl) (c : Cl) : cellsC (xs ++ [c]) = cellsC xs ++ [Value.int .i64 c.1, .bool c.2] := by simp [cellsC]
theorem Try.infoC : (Try.prog.info? 116).map (fun i => (i.zero, i.size, i.bytes)) = some (some (.agg #[.int .i64 0, .bool false]), 2, 16) := by kernel_rfl
/-- The set of the climates of a list. -/
def inL (met : List Cl) (s : Int) (c : Bool) : Bool := decide ((s, c) ∈ met)
/-- Row v and map m hold what they hold; nothing else that lay in w has turned. -/
structure Turned (w w' : World) (m : Nat) (g : Option Nat) : Prop where
  os : w'.os = w.os
  tape : w'.tape = w.tape
  output : w'.output = w.output
  size : w.heap.size ≤ w'.heap.size
  block : ∀ k, k < w.heap.size → k ≠ m → some k ≠ g → w'.heap[k]? = w.heap[k]?
theorem Turned.of_below {w w' : World} (h : Below w.heap.size w w') (m : Nat) (g : Option Nat) : Turned w w' m g := ⟨h.os, h.tape, h.output, h.size, fun k hk _ _ => h.block k hk⟩
theorem two_new (W : World) (x y : Value) (t : TypeId) : ∀ (j : Nat) (u : Value), [x, y][j]? = some u → (W.alloc (.cells #[x, y] t)).cell? ((⟨W.heap.size, 0, none⟩ : Addr).add j) = some u := by
  intro j u h
  match j, h with
  | 0, h => simp at h; subst h; exact (Cel.new W #[x, y] t 0 x rfl).1
  | 1, h => simp at h; subst h; exact (Cel.new W #[x, y] t 1 y rfl).1
  | j + 2, h => simp at h

set_option maxRecDepth 100000 in
set_option maxHeartbeats 1000000 in
theorem meet_old (v : Value) (S : Int → Bool → Bool) (n m : Nat) (c : Cl) (hw : (Lit.int .i64 c.1).wf = true) (w : World) (hs : SetAt w 116 m n S) (hc : S c.1 c.2 = true) :
    Calls Try.prog 99 #[v, .map (some m), Cl.val c] w (Ret w v) := by
  obtain ⟨t, h⟩ := c
  have hl := (hs.alloc (.cells #[.int .i64 t, .bool h] 116)).look pairC Try.underlying137 hw h
  rw [hc] at hl
  go_enter Try.func99, Try.ntmps99
  go_wp2
  go_ret
  exact ⟨rfl, by (repeat (first | assumption | exact Below.refl _ _ | refine b_alloc ?_ _ | refine Below.drew ?_ | refine b_drewN ?_ _ | refine Below.setCell ?_ (by first | omega | (simp; done) | (simp; omega)) _ | refine b_call (by assumption) ?_))⟩

set_option maxRecDepth 100000 in
set_option maxHeartbeats 1000000 in
theorem meet_new (v : Value) (xs : List Cl) (S : Int → Bool → Bool) (n m base : Nat) (c : Cl) (hw : (Lit.int .i64 c.1).wf = true) (w : World) (hs : SetAt w 116 m n S) (hc : S c.1 c.2 = false) (hn : n ≤ 100000) (hx : xs.length ≤ 100000) (hbase : base ≤ w.heap.size)
    (hv : w.ownsRow base 116 2 v xs.length (cellsC xs)) (hm : some m ≠ v.ownBlock) :
    Calls Try.prog 99 #[v, .map (some m), Cl.val c] w fun e w' => ∃ v', e = .returned v' ∧ w'.ownsRow base 116 2 v' (xs ++ [c]).length (cellsC (xs ++ [c])) ∧ SetAt w' 116 m (n + 1) (fun s' c' => S s' c' || (s' == c.1 && c' == c.2)) ∧
      Turned w w' m v.ownBlock ∧ (v'.ownBlock = v.ownBlock ∨ ∃ g, v'.ownBlock = some g ∧ w.heap.size ≤ g) := by
  obtain ⟨t, h⟩ := c
  obtain ⟨iC, hiC, hzC0, hzC1, hzC2⟩ := info_parts Try.infoC
  have hl := (hs.alloc (.cells #[.int .i64 t, .bool h] 116)).look pairC Try.underlying137 hw h
  rw [hc] at hl
  have HS := hid hs
  have HV := hid hv
  have hml := hs.lt
  clear hs hv
  go_enter Try.func99, Try.ntmps99
  go_wp2_with (first
    | (at_mapUpdate; refine wpList_set_store _ rfl _ _ _ 137 rfl pairC Try.underlying137 _ _ _ rfl (HS.out.alloc _) (by unfold maxLen; omega) t h rfl rfl hw ?_; intro w2 hs2 hg2; have r0 := (Cel.grown (Cel.new w #[.int .i64 t, .bool h] 116 0 _ rfl) hg2 (fun r e => by cases e; omega)).1; have r1 := (Cel.grown (Cel.new w #[.int .i64 t, .bool h] 116 1 _ rfl) hg2 (fun r e => by cases e; omega)).1; have hv2 := (HV.out.alloc (.cells #[.int .i64 t, .bool h] 116)).kept hg2 (.inr (fun e => hm e.symm)); have HS2 := hid hs2; have hz2 := hg2.size; clear hs2)
    | (at_builtin; refine wpList_append_own_at _ rfl _ _ 138 rfl base 116 iC (.agg #[.int .i64 0, .bool false]) 2 16 Try.underlying138 hiC hzC0 hzC1 hzC2 rfl (by decide) _ _ _ rfl (hv2.alloc _) ⟨w2.heap.size, 0, none⟩ 1 1 [.int .i64 t, .bool h] rfl rfl (two_new _ _ _ _) (by intro u hu; simp at hu; rcases hu with rfl | rfl <;> rfl) (by unfold maxLen; omega) (by omega) (by have h9 := hz2; simp at h9 ⊢; omega) ?_; intro v' w3 hown3 hg3 hnil hat))
  go_ret
  have hnb : ∀ g, v.ownBlock = some g → g < w.heap.size ∧ base ≤ g := fun g e => ⟨(HV.out.lt g e).2, (HV.out.lt g e).1⟩
  have h9 := hz2
  rw [World.size_alloc] at h9
  refine ⟨v', rfl, ?_, ?_, ⟨?_, ?_, ?_, ?_, ?_⟩, ?_⟩
  · rw [cellsC_snoc]; exact hown3
  · exact (HS2.out.alloc _).kept hg3 hm
  · rw [hg3.os]; exact hg2.os
  · rw [hg3.tape]; exact hg2.tape
  · rw [hg3.output]; exact hg2.output
  · have := hg3.size; rw [World.size_alloc] at this; omega
  · intro k hk hkm hkg
    rw [hg3.block k (by simp; omega) hkg, Below.heap_alloc _ _ _ (by omega), hg2.block k (by simp; omega) (by simpa using hkm), Below.heap_alloc _ _ _ hk]
  · rcases hat with e | e
    · exact .inl e
    · exact .inr ⟨_, e, by simp; omega⟩
end Go.Proofs.Ytggkhddficmnfaa
