/-
  Contracts of rounds and its iterator.
-/
import Derived.Test.YtggkhddficmnfaaPass
namespace Go.Proofs.Ytggkhddficmnfaa
open Go.RowKit Go.Shelf
set_option linter.unusedVariables false
set_option linter.unusedSimpArgs false
attribute [local go_sem] Oper.semAt_some

/-- Whatever lay below n₀ lies as it lay, but for block x. -/
structure Keeps (n₀ x : Nat) (W W' : World) : Prop where
  size : W.heap.size ≤ W'.heap.size
  block : ∀ k, k < n₀ → k ≠ x → W'.heap[k]? = W.heap[k]?
theorem Keeps.refl (n₀ x : Nat) (W : World) : Keeps n₀ x W W := ⟨Nat.le_refl _, fun _ _ _ => rfl⟩
theorem Keeps.trans {n₀ x : Nat} {A B C : World} (h : Keeps n₀ x A B) (k : Keeps n₀ x B C) : Keeps n₀ x A C := ⟨Nat.le_trans h.size k.size, fun i hi hx => (k.block i hi hx).trans (h.block i hi hx)⟩
theorem Keeps.of_below {n₀ x B : Nat} {W W' : World} (h : Below B W W') (hn : n₀ ≤ B) : Keeps n₀ x W W' := ⟨h.size, fun k hk _ => h.block k (by omega)⟩
theorem Keeps.cell {n₀ x : Nat} {W W' : World} (h : Keeps n₀ x W W') {b o : Nat} (hb : b < n₀) (hx : b ≠ x) : W'.cell? ⟨b, o, none⟩ = W.cell? ⟨b, o, none⟩ := World.cell?_of_block (a := ⟨b, o, none⟩) (h.block b hb hx)
theorem keepsK_b {n₀ x : Nat} {w : World} (hn : n₀ ≤ w.heap.size) (W : World) (l : Nat) (o o' : Obj) (hl : w.heap.size ≤ l) (h : W.heap[l]? = some o) (_ : o.isCells = false) (_ : o.isWalk = false) : Keeps n₀ x W (W.putObj l o') :=
  ⟨by simp, fun k hk _ => World.putObj_heap_other (by omega)⟩
def Ln.rS (l : Ln) (t : Int) : Int := (l.shift t).getD 0
def Ln.rL (l : Ln) (t : Int) : Bool := (l.shift t).isNone
theorem round_eq (l : Ln) (t : Int) : l.round t = .agg #[.int .i64 (l.rS t), .bool (l.rL t)] := by
  unfold Ln.round Ln.rS Ln.rL; cases l.shift t <;> rfl
abbrev roundEnc (ln : Ln) (ts : List Int) (k : Nat) : Array Value := #[.int .i64 (k : Int), .agg #[.int .i64 (ln.rS (ts[k]?.getD 0)), .bool (ln.rL (ts[k]?.getD 0))]]

set_option maxRecDepth 100000 in
set_option maxHeartbeats 2000000 in
theorem rounds1_in (ln : Ln) (hl : ln.Ok) (ts : List Int) (hlen : ts.length ≤ 60) (ht : tempsOk ts) (a : Option Addr) (cap : Nat) (n l Bt Bs n₀ bx : Nat) (hn : 1 ≤ n) (hb : Bs < n₀) (hbx : Bs ≠ bx) (J Jx : List Nat → World → Prop)
    (hY : ∀ pre x W, J pre W → pre.length < ts.length → YieldAt Fence.wide (n - 1) Try.prog l (roundEnc ln ts x) W fun e W' =>
      (e = .returned (.bool true) ∧ J (pre ++ [x]) W' ∧ Keeps n₀ bx W W') ∨ (e = .returned (.bool false) ∧ Jx (pre ++ [x]) W'))
    (W : World) (hJ : AbidesFrom W.heap.size J) (hn₀ : n₀ ≤ W.heap.size) (hA : LnAt Bs ln W) (hBt : W.cell? ⟨Bt, 0, none⟩ = some (.slice a ts.length cap)) (hT : ∀ W', Keeps n₀ bx W W' → IntsAt W' a ts) (h0 : J [] W) :
    CallsIn Fence.wide n Try.prog 92 #[.func (.yield l) #[] #[], .pointer (some ⟨Bt, 0, none⟩), .pointer (some ⟨Bs, 0, none⟩)] W fun e W' => (∃ v, e = .returned v) ∧
      ((∃ ys, ys = List.range ts.length ∧ J ys W') ∨ (∃ pre, (∃ k, k ≤ ts.length ∧ pre = List.range k) ∧ Jx pre W')) := by
  have HT := hid hT
  clear hT
  refine callsIn_of_wp Try.func92 rfl trivial ?_ rfl
  simp only [Try.ntmps92, List.size_toArray, List.length_cons, List.length_nil, Nat.reduceAdd, Nat.reduceSub, Array.replicate_succ, Array.replicate_zero, List.push_toArray, List.append_toArray, List.nil_append, List.cons_append]
  gi_wp2
  gi_loopw [4, 5, 8] (fun _ _ i wr => ∃ k : Nat, k ≤ ts.length ∧ i = .int .i64 (k : Int) ∧ J (List.range k) wr ∧ Keeps n₀ bx W wr) (fun _ _ i _ => ts.length - (intOf i).toNat)
  case atStart => exact ⟨0, by omega, rfl, h0, Keeps.refl _ _ _⟩
  case round =>
    obtain ⟨k, hk, rfl, hJs, hnx⟩ := hrel
    obtain ⟨a0, a1, a2, a3, a4, a5⟩ := hA
    have c0 := (hnx.cell (o := 0) hb hbx).trans a0
    have c1 := (hnx.cell (o := 1) hb hbx).trans a1
    have c2 := (hnx.cell (o := 2) hb hbx).trans a2
    have c3 := (hnx.cell (o := 3) hb hbx).trans a3
    have c4 := (hnx.cell (o := 4) hb hbx).trans a4
    have c5 := (hnx.cell (o := 5) hb hbx).trans a5
    clear a0 a1 a2 a3 a4 a5 hBt
    by_cases hlt : k < ts.length
    · obtain ⟨b, off, rfl, hc⟩ := HT.out _ hnx k hlt
      have hT : Temp (ts[k]) := ht _ (List.getElem_mem hlt)
      have he : roundEnc ln ts k = #[.int .i64 (k : Int), .agg #[.int .i64 (ln.rS ts[k]), .bool (ln.rL ts[k])]] := by simp [hlt]
      have RE := hid (round_eq ln ts[k])
      have HE := hid he
      clear he
      gi_wp2_with (refine ⟨trivial, ?_⟩; gi_at_call 58; refine (inWide (roundAt_any ln hl _ hT _)).mono ?_; rintro e w1 ⟨rfl, hb1⟩; obtain ⟨fn, tmps, assign, body, hy, hR⟩ := hY _ k w1 (hJ _ _ _ none hJs (grown_of_below hb1) (fun _ e => by cases e)) (by simpa using hlt); rw [HE.out] at hy; rw [RE.out])
      refine hR.mono ?_
      rintro e W3 (⟨rfl, hJ3, hk3⟩ | ⟨rfl, hJx3⟩)
      · gi_wp2
        go_roundw
        case rel => exact ⟨k + 1, by omega, by go_num, by rw [List.range_succ]; exact hJ3, (hnx.trans (Keeps.of_below hb1 (Nat.le_trans hn₀ hnx.size))).trans hk3⟩
        case measure => simp [intOf]; omega
      · gi_wp2
        refine bodyPost_ret (results_none rfl _ _ _) rfl ?_
        exact ⟨⟨_, rfl⟩, .inr ⟨_, ⟨k + 1, by omega, List.range_succ.symm⟩, hJx3⟩⟩
    · obtain rfl : k = ts.length := by omega
      gi_wp2
      go_end0
      exact ⟨⟨_, rfl⟩, .inl ⟨_, rfl, hJs⟩⟩

theorem rounds_stops (ln : Ln) (hl : ln.Ok) (ts : List Int) (hlen : ts.length ≤ 60) (ht : tempsOk ts) (a : Option Addr) (cap : Nat) (n Bt Bs n₀ bx : Nat) (hn : 1 ≤ n) (w : World) (hn₀ : n₀ ≤ w.heap.size) (hb : Bs < n₀) (hbx : Bs ≠ bx) (hA : LnAt Bs ln w)
    (hBt : w.cell? ⟨Bt, 0, none⟩ = some (.slice a ts.length cap)) (hT : ∀ W', Keeps n₀ bx w W' → IntsAt W' a ts) :
    SeqStopsK Fence.wide n Try.prog 92 #[.pointer (some ⟨Bt, 0, none⟩), .pointer (some ⟨Bs, 0, none⟩)] (roundEnc ln ts) (Keeps n₀ bx) (fun ys => ys = List.range ts.length) (fun pre => ∃ k, k ≤ ts.length ∧ pre = List.range k) ts.length w := fun l J Jx W hW hJ _ hY h0 => by
  obtain ⟨hc, _⟩ := bcell hW
  have hbt := World.block_lt_of_cell? w _ hBt
  refine rounds1_in ln hl ts hlen ht a cap n l Bt Bs n₀ bx hn hb hbx J Jx hY W hJ (Nat.le_trans hn₀ hW.size) ⟨?_, ?_, ?_, ?_, ?_, ?_⟩ ?_ (fun W' h => hT W' ((Keeps.of_below hW hn₀).trans h)) h0 <;> rw [hc _ _ (by first | omega | exact hbt)]
  · exact hA.1
  · exact hA.2.1
  · exact hA.2.2.1
  · exact hA.2.2.2.1
  · exact hA.2.2.2.2.1
  · exact hA.2.2.2.2.2
  · exact hBt

set_option maxHeartbeats 400000 in
theorem rounds_any (ln : Ln) (a : Option Addr) (n cap : Nat) (w : World) :
    Calls Try.prog 65 #[ln.val, .slice a n cap] w fun e w' => e = .returned (.func (.func 92) #[] #[.pointer (some ⟨w.heap.size + 1, 0, none⟩), .pointer (some ⟨w.heap.size, 0, none⟩)]) ∧
      w' = (w.alloc (.cells #[.int .i64 ln.W, .int .i64 ln.B, .int .i64 ln.P, .int .i64 ln.D, .int .i64 ln.S, .int .i64 ln.N] 25)).alloc (.cells #[.slice a n cap] 35) := by
  go_enter Try.func65, Try.ntmps65
  go_wp2
  go_ret
  exact ⟨rfl, rfl⟩
end Go.Proofs.Ytggkhddficmnfaa
