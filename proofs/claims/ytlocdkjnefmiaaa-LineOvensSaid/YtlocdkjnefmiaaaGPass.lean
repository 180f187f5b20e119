/-
  Contracts of passError, rounds, and Pass.
  Contracts of rounds and its iterator.
  Contract of Pass.
  Pass: what it returns where there is an error; the fence taken off.
  Pass, what it returns, as one function; words and their pulses, there and back.
-/
import Derived.Test.YtlocdkjnefmiaaaGSmall
import Derived.Test.YtlocdkjnefmiaaaGRange
namespace Go.Proofs.Ytlocdkjnefmiaaa
open Go.RowKit Go.Shelf
set_option linter.unusedVariables false
set_option linter.unusedSimpArgs false

def tempsOk (ts : List Int) : Prop := ∀ t ∈ ts, Temp t
instance (ts : List Int) : Decidable (tempsOk ts) := by unfold tempsOk; infer_instance
def tErr (ts : List Int) : Int := if tempsOk ts then 0 else 7
def passErr (l : Ln) (ws ts : List Int) : Int :=
  if l.Ok then (if wordsErr l ws = 0 then (if ts.length ≤ 60 then tErr ts else 3) else wordsErr l ws) else 7
theorem tempsOk_step {ws : List Int} (h : ∀ j, j < ws.length → Temp (ws[j]?.getD 0)) : tempsOk ws := fun x hx => by
  obtain ⟨j, hj, rfl⟩ := List.mem_iff_getElem.1 hx
  have := h j hj
  simpa [hj] using this
theorem tempsOk_not {ws : List Int} {j : Nat} (hj : j < ws.length) (h : ¬ Temp (ws[j]?.getD 0)) : ¬ tempsOk ws := fun g => by
  apply h
  have := g _ (List.getElem_mem hj)
  simpa [hj] using this
theorem wordsErr_cases (l : Ln) (ws : List Int) : wordsErr l ws = 0 ∨ wordsErr l ws = 3 ∨ wordsErr l ws = 7 := by
  unfold wordsErr wErr; split <;> (try split) <;> simp

set_option maxHeartbeats 1000000 in
theorem passError_no (l : Ln) (h : ¬ l.Ok) (a b : Option Addr) (ca cb : Nat) (ws ts : List Int) (w : World) :
    Calls Try.prog 63 #[l.val, .slice a ws.length ca, .slice b ts.length cb] w (Ret w (.int .i64 7)) := by
  go_enter Try.func63, Try.ntmps63
  go_wp2_with (go_at_call 25; refine (Check_no l h _).mono ?_; rintro e w1 ⟨rfl, hb1⟩; obtain ⟨hc1, hf1⟩ := bcell hb1)
  go_ret
  exact ⟨rfl, by (repeat (first | assumption | exact Below.refl _ _ | refine b_alloc ?_ _ | refine Below.drew ?_ | refine b_drewN ?_ _ | refine Below.setCell ?_ (by first | omega | (simp; done) | (simp; omega)) _ | refine b_call (by assumption) ?_))⟩
set_option maxHeartbeats 1000000 in
theorem passError_words (l : Ln) (h : l.Ok) (a b : Option Addr) (ca cb : Nat) (ws ts : List Int) (w : World) (hx : IntsAt w a ws) (e : Int) (he : wordsErr l ws = e) (hne : e ≠ 0) :
    Calls Try.prog 63 #[l.val, .slice a ws.length ca, .slice b ts.length cb] w (Ret w (.int .i64 e)) := by
  have HX := hid hx
  have HE := hid he
  have hne2 : (e != 0) = true := by simpa using hne
  clear hx he
  go_enter Try.func63, Try.ntmps63
  go_wp2_with (first | ((go_at_call 25; refine (Check_ok l h _).mono ?_; rintro e w1 ⟨rfl, hb1⟩; obtain ⟨hc1, hf1⟩ := bcell hb1); have hI := hid ((HX.out.alloc _).below hb1)) | (go_at_call 84; refine (wordsError_any l h a ca ws _ hI.out).mono ?_; rintro e1 w2 ⟨rfl, hb2⟩; rw [HE.out]))
  go_ret
  exact ⟨rfl, by (repeat (first | assumption | exact Below.refl _ _ | refine b_alloc ?_ _ | refine Below.drew ?_ | refine b_drewN ?_ _ | refine Below.setCell ?_ (by first | omega | (simp; done) | (simp; omega)) _ | refine b_call (by assumption) ?_))⟩
set_option maxHeartbeats 1000000 in
theorem passError_ok (l : Ln) (h : l.Ok) (a b : Option Addr) (ca cb : Nat) (ws ts : List Int) (hlt : Len ts.length) (w : World) (hx : IntsAt w a ws) (hy : IntsAt w b ts) (he : wordsErr l ws = 0) :
    Calls Try.prog 63 #[l.val, .slice a ws.length ca, .slice b ts.length cb] w (Ret w (.int .i64 (if ts.length ≤ 60 then tErr ts else 3))) := by
  have HX := hid hx
  have HY := hid hy
  have HE := hid he
  clear hx hy he
  by_cases hl : ts.length ≤ 60
  · rw [if_pos hl]
    have hl2 : ¬ (60 : Int) < (ts.length : Int) := by omega
    go_enter Try.func63, Try.ntmps63
    go_wp2_with (first | ((go_at_call 25; refine (Check_ok l h _).mono ?_; rintro e w1 ⟨rfl, hb1⟩; obtain ⟨hc1, hf1⟩ := bcell hb1); have hI := hid ((HX.out.alloc _).below hb1)) | (go_at_call 84; refine (wordsError_any l h a ca ws _ hI.out).mono ?_; rintro e1 w2 ⟨rfl, hb2⟩; rw [HE.out]))
    have hB0 : Below w.heap.size w w2 := by (repeat (first | assumption | exact Below.refl _ _ | refine b_alloc ?_ _ | refine Below.drew ?_ | refine b_drewN ?_ _ | refine Below.setCell ?_ (by first | omega | (simp; done) | (simp; omega)) _ | refine b_call (by assumption) ?_))
    clear hb1 hb2 hc1 hf1 hI
    go_loopw [10, 27] (fun _ i wr => ∃ k : Nat, k ≤ ts.length ∧ i = .int .i64 k ∧ (∀ j, j < k → Temp (ts[j]?.getD 0)) ∧ Below w.heap.size w wr) (fun _ i _ => ts.length - (intOf i).toNat)
    case atStart => exact ⟨0, by omega, rfl, fun j hj => by omega, hB0⟩
    case round =>
      obtain ⟨k, hk, rfl, hall, hbr⟩ := hrel
      have HA := hid hall
      clear hall hB0
      by_cases hlt : k < ts.length
      · obtain ⟨b1, off, rfl, hc⟩ := (HY.out.below hbr) k hlt
        by_cases hin : -500 ≤ ts[k] ∧ ts[k] ≤ 1000
        · have hd : decide (-500 ≤ ts[k] ∧ ts[k] ≤ 1000) = true := by simpa using hin
          go_wp2_with (go_at_call 57; refine (isTemp_any _ _).mono ?_; rintro e w1 ⟨rfl, rfl⟩)
          go_roundw
          case rel => exact ⟨k + 1, by omega, by go_num, (fun j hj => by
            by_cases e : j = k
            · subst e; simpa [hlt, Temp] using hin
            · exact HA.out j (by omega)), hbr⟩
          case measure => simp [intOf]; omega
        · have hd : decide (-500 ≤ ts[k] ∧ ts[k] ≤ 1000) = false := by simpa using hin
          have hE := hid (show tErr ts = 7 from if_neg (tempsOk_not hlt (by simpa [hlt, Temp] using hin)))
          go_wp2_with (go_at_call 57; refine (isTemp_any _ _).mono ?_; rintro e w1 ⟨rfl, rfl⟩)
          go_ret
          exact ⟨by rw [hE.out]; rfl, by (repeat (first | assumption | exact Below.refl _ _ | refine b_alloc ?_ _ | refine Below.drew ?_ | refine b_drewN ?_ _ | refine Below.setCell ?_ (by first | omega | (simp; done) | (simp; omega)) _ | refine b_call (by assumption) ?_))⟩
      · obtain rfl : k = ts.length := by omega
        have hE := hid (show tErr ts = 0 from if_pos (tempsOk_step HA.out))
        go_wp2
        go_ret
        exact ⟨by rw [hE.out]; rfl, by (repeat (first | assumption | exact Below.refl _ _ | refine b_alloc ?_ _ | refine Below.drew ?_ | refine b_drewN ?_ _ | refine Below.setCell ?_ (by first | omega | (simp; done) | (simp; omega)) _ | refine b_call (by assumption) ?_))⟩
  · rw [if_neg hl]
    have hl2 : (60 : Int) < (ts.length : Int) := by omega
    go_enter Try.func63, Try.ntmps63
    go_wp2_with (first | ((go_at_call 25; refine (Check_ok l h _).mono ?_; rintro e w1 ⟨rfl, hb1⟩; obtain ⟨hc1, hf1⟩ := bcell hb1); have hI := hid ((HX.out.alloc _).below hb1)) | (go_at_call 84; refine (wordsError_any l h a ca ws _ hI.out).mono ?_; rintro e1 w2 ⟨rfl, hb2⟩; rw [HE.out]))
    go_ret
    exact ⟨rfl, by (repeat (first | assumption | exact Below.refl _ _ | refine b_alloc ?_ _ | refine Below.drew ?_ | refine b_drewN ?_ _ | refine Below.setCell ?_ (by first | omega | (simp; done) | (simp; omega)) _ | refine b_call (by assumption) ?_))⟩
theorem passError_any (l : Ln) (a b : Option Addr) (ca cb : Nat) (ws ts : List Int) (hlt : Len ts.length) (w : World) (hx : IntsAt w a ws) (hy : IntsAt w b ts) :
    Calls Try.prog 63 #[l.val, .slice a ws.length ca, .slice b ts.length cb] w (Ret w (.int .i64 (passErr l ws ts))) := by
  unfold passErr
  by_cases h : l.Ok
  · rw [if_pos h]
    by_cases he : wordsErr l ws = 0
    · rw [if_pos he]; exact passError_ok l h a b ca cb ws ts hlt w hx hy he
    · rw [if_neg he]; exact passError_words l h a b ca cb ws ts w hx _ rfl he
  · rw [if_neg h]; exact passError_no l h a b ca cb ws ts w
end Go.Proofs.Ytlocdkjnefmiaaa
namespace Go.Proofs.Ytlocdkjnefmiaaa
open Go.RowKit Go.Shelf
set_option linter.unusedVariables false
set_option linter.unusedSimpArgs false
attribute [local go_sem] Oper.semAt_some

/-- Whatever lay below n₀ lies as it lay, but for block x. -/
structure Keeps (n₀ x : Nat) (W W' : World) : Prop where
  size : W.heap.size ≤ W'.heap.size
  block : ∀ k, k < n₀ → k ≠ x → W'.heap[k]? = W.heap[k]?
theorem Keeps.refl (n₀ x : Nat) (W : World) : Keeps n₀ x W W := ⟨Nat.le_refl _, fun _ _ _ => rfl⟩
theorem Keeps.trans {n₀ x : Nat} {A B C : World} (h : Keeps n₀ x A B) (k : Keeps n₀ x B C) : Keeps n₀ x A C := ⟨Nat.le_trans h.size k.size, fun i hi hx => (k.block i hi hx).trans (h.block i hi hx)⟩
theorem Keeps.of_below {n₀ x B : Nat} {W W' : World} (h : Below B W W') (hn : n₀ ≤ B) : Keeps n₀ x W W' := ⟨h.size, fun k hk _ => h.block k (by omega)⟩
theorem Keeps.cell {n₀ x : Nat} {W W' : World} (h : Keeps n₀ x W W') {b o : Nat} (hb : b < n₀) (hx : b ≠ x) : W'.cell? ⟨b, o, none⟩ = W.cell? ⟨b, o, none⟩ := World.cell?_of_block (a := ⟨b, o, none⟩) (h.block b hb hx)
theorem keepsK_b {n₀ x : Nat} {w : World} (hn : n₀ ≤ w.heap.size) (W : World) (l : Nat) (o o' : Obj) (hl : w.heap.size ≤ l) (h : W.heap[l]? = some o) (_ : o.isCells = false) (_ : o.isWalk = false) : Keeps n₀ x W (W.putObj l o') :=
  ⟨by simp, fun k hk _ => World.putObj_heap_other (by omega)⟩
def Ln.rS (l : Ln) (t : Int) : Int := (l.shift t).getD 0
def Ln.rL (l : Ln) (t : Int) : Bool := (l.shift t).isNone
theorem round_eq (l : Ln) (t : Int) : l.round t = .agg #[.int .i64 (l.rS t), .bool (l.rL t)] := by
  unfold Ln.round Ln.rS Ln.rL; cases l.shift t <;> rfl
abbrev roundEnc (ln : Ln) (ts : List Int) (k : Nat) : Array Value := #[.int .i64 (k : Int), .agg #[.int .i64 (ln.rS (ts[k]?.getD 0)), .bool (ln.rL (ts[k]?.getD 0))]]

set_option maxRecDepth 100000 in
set_option maxHeartbeats 2000000 in
theorem rounds1_in (ln : Ln) (hl : ln.Ok) (ts : List Int) (hlen : ts.length ≤ 60) (ht : tempsOk ts) (a : Option Addr) (cap : Nat) (n l Bt Bs n₀ bx : Nat) (hn : 1 ≤ n) (hb : Bs < n₀) (hbx : Bs ≠ bx) (J Jx : List Nat → World → Prop)
    (hY : ∀ pre x W, J pre W → pre.length < ts.length → YieldAt Fence.wide (n - 1) Try.prog l (roundEnc ln ts x) W fun e W' =>
      (e = .returned (.bool true) ∧ J (pre ++ [x]) W' ∧ Keeps n₀ bx W W') ∨ (e = .returned (.bool false) ∧ Jx (pre ++ [x]) W'))
    (W : World) (hJ : AbidesFrom W.heap.size J) (hn₀ : n₀ ≤ W.heap.size) (hA : LnAt Bs ln W) (hBt : W.cell? ⟨Bt, 0, none⟩ = some (.slice a ts.length cap)) (hT : ∀ W', Keeps n₀ bx W W' → IntsAt W' a ts) (h0 : J [] W) :
    CallsIn Fence.wide n Try.prog 92 #[.func (.yield l) #[] #[], .pointer (some ⟨Bt, 0, none⟩), .pointer (some ⟨Bs, 0, none⟩)] W fun e W' => (∃ v, e = .returned v) ∧
      ((∃ ys, ys = List.range ts.length ∧ J ys W') ∨ (∃ pre, (∃ k, k ≤ ts.length ∧ pre = List.range k) ∧ Jx pre W')) := by
  have HT := hid hT
  clear hT
  refine callsIn_of_wp Try.func92 rfl trivial ?_ rfl
  simp only [Try.ntmps92, List.size_toArray, List.length_cons, List.length_nil, Nat.reduceAdd, Nat.reduceSub, Array.replicate_succ, Array.replicate_zero, List.push_toArray, List.append_toArray, List.nil_append, List.cons_append]
  gi_wp2
  gi_loopw [4, 5, 8] (fun _ _ i wr => ∃ k : Nat, k ≤ ts.length ∧ i = .int .i64 (k : Int) ∧ J (List.range k) wr ∧ Keeps n₀ bx W wr) (fun _ _ i _ => ts.length - (intOf i).toNat)
  case atStart => exact ⟨0, by omega, rfl, h0, Keeps.refl _ _ _⟩
  case round =>
    obtain ⟨k, hk, rfl, hJs, hnx⟩ := hrel
    obtain ⟨a0, a1, a2, a3, a4, a5⟩ := hA
    have c0 := (hnx.cell (o := 0) hb hbx).trans a0
    have c1 := (hnx.cell (o := 1) hb hbx).trans a1
    have c2 := (hnx.cell (o := 2) hb hbx).trans a2
    have c3 := (hnx.cell (o := 3) hb hbx).trans a3
    have c4 := (hnx.cell (o := 4) hb hbx).trans a4
    have c5 := (hnx.cell (o := 5) hb hbx).trans a5
    clear a0 a1 a2 a3 a4 a5 hBt
    by_cases hlt : k < ts.length
    · obtain ⟨b, off, rfl, hc⟩ := HT.out _ hnx k hlt
      have hT : Temp (ts[k]) := ht _ (List.getElem_mem hlt)
      have he : roundEnc ln ts k = #[.int .i64 (k : Int), .agg #[.int .i64 (ln.rS ts[k]), .bool (ln.rL ts[k])]] := by simp [hlt]
      have RE := hid (round_eq ln ts[k])
      have HE := hid he
      clear he
      gi_wp2_with (refine ⟨trivial, ?_⟩; gi_at_call 58; refine (inWide (roundAt_any ln hl _ hT _)).mono ?_; rintro e w1 ⟨rfl, hb1⟩; obtain ⟨fn, tmps, assign, body, hy, hR⟩ := hY _ k w1 (hJ _ _ _ none hJs (grown_of_below hb1) (fun _ e => by cases e)) (by simpa using hlt); rw [HE.out] at hy; rw [RE.out])
      refine hR.mono ?_
      rintro e W3 (⟨rfl, hJ3, hk3⟩ | ⟨rfl, hJx3⟩)
      · gi_wp2
        go_roundw
        case rel => exact ⟨k + 1, by omega, by go_num, by rw [List.range_succ]; exact hJ3, (hnx.trans (Keeps.of_below hb1 (Nat.le_trans hn₀ hnx.size))).trans hk3⟩
        case measure => simp [intOf]; omega
      · gi_wp2
        refine bodyPost_ret (results_none rfl _ _ _) rfl ?_
        exact ⟨⟨_, rfl⟩, .inr ⟨_, ⟨k + 1, by omega, List.range_succ.symm⟩, hJx3⟩⟩
    · obtain rfl : k = ts.length := by omega
      gi_wp2
      go_end0
      exact ⟨⟨_, rfl⟩, .inl ⟨_, rfl, hJs⟩⟩

theorem rounds_stops (ln : Ln) (hl : ln.Ok) (ts : List Int) (hlen : ts.length ≤ 60) (ht : tempsOk ts) (a : Option Addr) (cap : Nat) (n Bt Bs n₀ bx : Nat) (hn : 1 ≤ n) (w : World) (hn₀ : n₀ ≤ w.heap.size) (hb : Bs < n₀) (hbx : Bs ≠ bx) (hA : LnAt Bs ln w)
    (hBt : w.cell? ⟨Bt, 0, none⟩ = some (.slice a ts.length cap)) (hT : ∀ W', Keeps n₀ bx w W' → IntsAt W' a ts) :
    SeqStopsK Fence.wide n Try.prog 92 #[.pointer (some ⟨Bt, 0, none⟩), .pointer (some ⟨Bs, 0, none⟩)] (roundEnc ln ts) (Keeps n₀ bx) (fun ys => ys = List.range ts.length) (fun pre => ∃ k, k ≤ ts.length ∧ pre = List.range k) ts.length w := fun l J Jx W hW hJ _ hY h0 => by
  obtain ⟨hc, _⟩ := bcell hW
  have hbt := World.block_lt_of_cell? w _ hBt
  refine rounds1_in ln hl ts hlen ht a cap n l Bt Bs n₀ bx hn hb hbx J Jx hY W hJ (Nat.le_trans hn₀ hW.size) ⟨?_, ?_, ?_, ?_, ?_, ?_⟩ ?_ (fun W' h => hT W' ((Keeps.of_below hW hn₀).trans h)) h0 <;> rw [hc _ _ (by first | omega | exact hbt)]
  · exact hA.1
  · exact hA.2.1
  · exact hA.2.2.1
  · exact hA.2.2.2.1
  · exact hA.2.2.2.2.1
  · exact hA.2.2.2.2.2
  · exact hBt

set_option maxHeartbeats 400000 in
theorem rounds_any (ln : Ln) (a : Option Addr) (n cap : Nat) (w : World) :
    Calls Try.prog 65 #[ln.val, .slice a n cap] w fun e w' => e = .returned (.func (.func 92) #[] #[.pointer (some ⟨w.heap.size + 1, 0, none⟩), .pointer (some ⟨w.heap.size, 0, none⟩)]) ∧
      w' = (w.alloc (.cells #[.int .i64 ln.W, .int .i64 ln.B, .int .i64 ln.P, .int .i64 ln.D, .int .i64 ln.S, .int .i64 ln.N] 25)).alloc (.cells #[.slice a n cap] 35) := by
  go_enter Try.func65, Try.ntmps65
  go_wp2
  go_ret
  exact ⟨rfl, rfl⟩
end Go.Proofs.Ytlocdkjnefmiaaa
namespace Go.Proofs.Ytlocdkjnefmiaaa
open Go.RowKit Go.Shelf
set_option linter.unusedVariables false
set_option linter.unusedSimpArgs false
attribute [local go_sem] Oper.semAt_some

/-- The pulses after some rounds (each named by its index), none of which loses them. -/
def roundsL (l : Ln) (ts : List Int) (ps : List Bool) (pre : List Nat) : List Bool := pre.foldl (fun q x => rot q (l.rS (ts[x]?.getD 0) % (ps.length : Int)).toNat) ps
theorem roundsL_snoc (l : Ln) (ts : List Int) (ps : List Bool) (pre : List Nat) (x : Nat) : roundsL l ts ps (pre ++ [x]) = rot (roundsL l ts ps pre) (l.rS (ts[x]?.getD 0) % (ps.length : Int)).toNat := by simp [roundsL]
theorem foldl_len (f : List Bool → Nat → List Bool) (h : ∀ q x, (f q x).length = q.length) (pre : List Nat) : ∀ q, (pre.foldl f q).length = q.length := by
  induction pre with
  | nil => intro q; rfl
  | cons x pre ih => intro q; rw [List.foldl_cons, ih, h]
theorem roundsL_len (l : Ln) (ts : List Int) (ps : List Bool) (pre : List Nat) : (roundsL l ts ps pre).length = ps.length := foldl_len _ (fun q x => rot_len q _) pre ps
/-- No pulses are lost in these rounds. -/
def keepsL (l : Ln) (ts : List Int) (pre : List Nat) : Prop := ∀ j ∈ pre, l.rL (ts[j]?.getD 0) = false
/-- No pulses are lost in the first k rounds. -/
def keepsTo (l : Ln) (ts : List Int) (k : Nat) : Prop := keepsL l ts (List.range k)

/-- The call returns words, the index of a round, and no error. -/
def RetP (w : World) (xs : List Int) (at' : Int) (e : Ending) (w' : World) : Prop :=
  ∃ g cap, e = .returned (.tuple #[.slice (some ⟨g, 0, none⟩) xs.length cap, .int .i64 at', .int .i64 0]) ∧ w'.ownsRow w.heap.size 3 1 (.slice (some ⟨g, 0, none⟩) xs.length cap) xs.length (xs.map (Value.int .i64)) ∧ Below w.heap.size w w'

/-- Between two rounds. -/
def PassI (l : Ln) (ts ws : List Int) (n s B nb : Nat) (w : World) (pre : List Nat) (W : World) : Prop :=
  keepsL l ts pre ∧ (∃ g cap, Boxed W B 91 (.slice (some ⟨g, 0, none⟩) nb cap) ∧ W.ownsRow s 4 1 (.slice (some ⟨g, 0, none⟩) nb cap) nb ((roundsL l ts (pulsesFrom ws n) pre).map Value.bool)) ∧
    Boxed W (s + 1) 35 (.slice none 0 0) ∧ Boxed W (s + 1 + 1) 3 (.int .i64 0) ∧ Boxed W (s + 1 + 1 + 1) 26 (.int .i64 0) ∧ LnAt s l W ∧ Below s w W ∧ B + 3 ≤ W.heap.size
/-- Pulses were lost. -/
def PassX (l : Ln) (ts : List Int) (m s : Nat) (w : World) (c : Code) (pre : List Nat) (W : World) : Prop :=
  c = .ret ∧ ∃ (p : List Nat) (k : Nat), pre = p ++ [k] ∧ keepsL l ts p ∧ l.rL (ts[k]?.getD 0) = true ∧ (∃ g, Boxed W (s + 1) 35 (.slice (some ⟨g, 0, none⟩) m m) ∧ W.ownsRow s 3 1 (.slice (some ⟨g, 0, none⟩) m m) m (List.replicate m (.int .i64 0))) ∧
    Boxed W (s + 1 + 1) 3 (.int .i64 (k : Int)) ∧ Boxed W (s + 1 + 1 + 1) 26 (.int .i64 0) ∧ Below s w W

/-- Blocks of cells lie as they lay, and whatever lay below B. -/
structure SameUp (B : Nat) (W W' : World) : Prop where
  os : W'.os = W.os
  tape : W'.tape = W.tape
  output : W'.output = W.output
  size : W.heap.size ≤ W'.heap.size
  low : ∀ k, k < W.heap.size → k < B → W'.heap[k]? = W.heap[k]?
  cells : ∀ (k : Nat) (o : Obj), W.heap[k]? = some o → o.isCells = true → W'.heap[k]? = some o
theorem own_of_same {β : Type} {B : Nat} {I : β → World → Prop} (h : ∀ s W W', I s W → SameUp B W W' → I s W') : OwnFrom B I := fun s W W' row hs hg hr =>
  h s W W' hs ⟨hg.os, hg.tape, hg.output, hg.size, fun k hk hB => hg.block k hk (fun e => by have := (hr k e.symm).1; omega), fun k o hk ho => by
    have hlt := (Array.getElem?_eq_some_iff.1 hk).1
    refine (hg.block k hlt (fun e => ?_)).trans hk
    obtain ⟨_, o', ho', hc⟩ := hr k e.symm
    rw [hk] at ho'; cases ho'; rw [ho] at hc; cases hc⟩
theorem SameUp.boxed {B : Nat} {W W' : World} (h : SameUp B W W') {b : Nat} {t : TypeId} {v : Value} (hv : Boxed W b t v) : Boxed W' b t v := h.cells _ _ hv rfl
theorem SameUp.row {B : Nat} {W W' : World} (h : SameUp B W W') {base t size : Nat} {v : Value} {n : Nat} {xs : List Value} (hv : W.ownsRow base t size v n xs) : W'.ownsRow base t size v n xs :=
  ⟨hv.1, hv.2.imp id (fun ⟨g, cap, cur, e, hg, hh, r⟩ => ⟨g, cap, cur, e, hg, h.cells _ _ hh rfl, r⟩)⟩
theorem SameUp.below {B n₀ : Nat} {w W W' : World} (h : SameUp B W W') (hb : Below n₀ w W) (h1 : n₀ ≤ w.heap.size) (h2 : n₀ ≤ B) : Below n₀ w W' :=
  ⟨h.os.trans hb.os, h.tape.trans hb.tape, h.output.trans hb.output, Nat.le_trans hb.size h.size, fun k hk => (h.low k (by have := hb.size; omega) (by omega)).trans (hb.block k hk)⟩
theorem SameUp.cell {B : Nat} {W W' : World} (h : SameUp B W W') {b o : Nat} {v : Value} (hB : b < B) (hv : W.cell? ⟨b, o, none⟩ = some v) : W'.cell? ⟨b, o, none⟩ = some v := by
  have hlt := World.block_lt_of_cell? W _ hv
  exact (World.cell?_of_block (a := ⟨b, o, none⟩) (h.low b hlt hB)).trans hv
theorem passI_own {l : Ln} {ts ws : List Int} {n s B nb : Nat} {w W0 : World} (hs : w.heap.size = s) (hsz : W0.heap.size = B + 3) (hsB : s ≤ B) : OwnFrom W0.heap.size (PassI l ts ws n s B nb w) := own_of_same fun pre W W' hI hS => by
  obtain ⟨hk, ⟨g, cap, h1, h2⟩, h3, h4, h5, ⟨a0, a1, a2, a3, a4, a5⟩, h7, h8⟩ := hI
  exact ⟨hk, ⟨g, cap, hS.boxed h1, hS.row h2⟩, hS.boxed h3, hS.boxed h4, hS.boxed h5, ⟨hS.cell (by omega) a0, hS.cell (by omega) a1, hS.cell (by omega) a2, hS.cell (by omega) a3, hS.cell (by omega) a4, hS.cell (by omega) a5⟩, hS.below h7 (by omega) (by omega), Nat.le_trans h8 hS.size⟩
theorem passX_own {l : Ln} {ts : List Int} {m s B : Nat} {w W0 : World} (hs : w.heap.size = s) (hsz : W0.heap.size = B + 3) (hsB : s ≤ B) (c : Code) : OwnFrom W0.heap.size (PassX l ts m s w c) := own_of_same fun pre W W' hI hS => by
  obtain ⟨hc, p, k, e, hk, hn, ⟨g, h1, h2⟩, h4, h5, h7⟩ := hI
  exact ⟨hc, p, k, e, hk, hn, ⟨g, hS.boxed h1, hS.row h2⟩, hS.boxed h4, hS.boxed h5, hS.below h7 (by omega) (by omega)⟩

/-- 'make([]T, n)' in a fenced walk. -/
theorem make_full_in {F : Fence} {k : Nat} {P : Program} (w : World) {ops : Array Oper} {rest : List Oper} {o : Oper} {a : Act} {Q : Exit → Act → World → Prop}
    (hg : o.guard = none) (l c : Operand) (t : TypeId) (hop : o.op = Op.makeSlice t l c)
    (base : Nat) (e : TypeId) (i : TypeInfo) (z : Value) (size : Nat) (h1 : P.underlying t = some (.slice e)) (h2 : P.info? e = some i) (h3 : i.zero = some z) (h4 : i.size = size)
    (kl kc : IntKind) (L C : Int) (n : Nat) (hl : a.eval l = .int kl L) (hc : a.eval c = .int kc C) (hL : L = (n : Int)) (hC : C = (n : Int)) (b2 : i.bytes * n ≤ 281474976710656) (b3 : n ≤ maxLen) (b4 : base ≤ w.heap.size)
    (hK : ∀ w', w'.ownsRow base e size (.slice (some ⟨w.heap.size, 0, none⟩) n n) n (madeCells z.cells (n * size)).toList → w.grownBy w' none → wpListIn F k P ops Q rest (a.put o.dst (.slice (some ⟨w.heap.size, 0, none⟩) n n)) w') :
    wpListIn F k P ops Q (o :: rest) a w := by
  refine wpListIn_plain hg fun K hK' => ?_
  obtain ⟨w', hrun, r1, r2⟩ := run_make_full (P := P) w base t e i z size h1 h2 h3 h4 kl kc n b2 b3 b4
  subst hL
  subst hC
  unfold Oper.wpIn
  refine ⟨?_, ?_⟩
  · simp [Oper.about, hop]
  · rw [Oper.semAt_plain F _ _ (by rw [hop]; intro c hc'; cases hc')]
    simp [execOp, hop, hl, hc, hrun, Result.andThen]
    exact hK' _ _ (hK w' r1 r2)
theorem lnAt_other {W : World} {s B : Nat} {l : Ln} (h : LnAt s l W) (hne : s ≠ B) (v : Value) : LnAt s l (W.setCell ⟨B, 0, none⟩ v) := by
  obtain ⟨a0, a1, a2, a3, a4, a5⟩ := h
  have hb := (grownBy_setCell' W B v).block s (by have := World.block_lt_of_cell? _ _ a0; simpa using this) (by simpa using hne)
  exact ⟨(World.cell?_of_block (a := ⟨s, 0, none⟩) hb).trans a0, (World.cell?_of_block (a := ⟨s, 1, none⟩) hb).trans a1, (World.cell?_of_block (a := ⟨s, 2, none⟩) hb).trans a2, (World.cell?_of_block (a := ⟨s, 3, none⟩) hb).trans a3, (World.cell?_of_block (a := ⟨s, 4, none⟩) hb).trans a4, (World.cell?_of_block (a := ⟨s, 5, none⟩) hb).trans a5⟩
theorem boxed_call {W W' : World} {b : Nat} {t : TypeId} {v : Value} (h : Boxed W b t v) (hb : Below W.heap.size W W') : Boxed W' b t v := (hb.block b h.lt).trans h
/-- The three results are read when the deferred calls are done: nothing was deferred. -/
theorem pass_end {w WF : World} {s D g n cap : Nat} {xs : List Int} {at' : Int} (hs : w.heap.size = s) (hD : s + 3 < D) (b1 : Boxed WF (s + 1) 35 (.slice (some ⟨g, 0, none⟩) n cap)) (b2 : Boxed WF (s + 1 + 1) 3 (.int .i64 at')) (b3 : Boxed WF (s + 1 + 1 + 1) 26 (.int .i64 0))
    (hr : WF.ownsRow s 3 1 (.slice (some ⟨g, 0, none⟩) n cap) n (xs.map (Value.int .i64))) (hn : xs.length = n) (hB : Below s w WF) (hK : WF.heap[D]? = some (.deferred (some []))) :
    (WF.putObj D (.deferred none)).cell? ⟨s + 1, 0, none⟩ = some (.slice (some ⟨g, 0, none⟩) n cap) ∧ (WF.putObj D (.deferred none)).cell? ⟨s + 1 + 1, 0, none⟩ = some (.int .i64 at') ∧ (WF.putObj D (.deferred none)).cell? ⟨s + 1 + 1 + 1, 0, none⟩ = some (.int .i64 0) ∧
      RetP w xs at' (.returned (.tuple #[.slice (some ⟨g, 0, none⟩) n cap, .int .i64 at', .int .i64 0])) (WF.putObj D (.deferred none)) := by
  have gr := grownBy_putObj' WF D (.deferred none)
  have hgD : g ≠ D := by
    rintro rfl
    rcases hr.2 with ⟨e, _⟩ | ⟨g', c', cur, e, _, hh, _⟩
    · cases e
    · cases e; rw [hK] at hh; cases hh
  refine ⟨(b1.kept gr (fun e => by cases e; omega)).cell, (b2.kept gr (fun e => by cases e; omega)).cell, (b3.kept gr (fun e => by cases e; omega)).cell, g, cap, by rw [hn], ?_, ?_⟩
  · rw [hn, hs]; exact hr.kept gr (.inr (by simp [Value.ownBlock]; omega))
  · rw [hs]; exact hB.grown gr (by have := hB.size; omega) (fun k e => by cases e; omega)
set_option maxRecDepth 100000 in
set_option maxHeartbeats 2000000 in
theorem Pass_in (l : Ln) (h : l.Ok) (m n : Nat) (hm : l.W = (m : Int)) (hn : l.B = (n : Int)) (a b : Option Addr) (ca cb : Nat) (ws ts : List Int) (hwl : (ws.length : Int) = l.W) (hok : wordsOk l.B ws) (hlt : ts.length ≤ 60) (ht : tempsOk ts) (w : World) (hx : IntsAt w a ws) (hy : IntsAt w b ts)
    (xs : List Int) (at' : Int) (hkeep : keepsTo l ts ts.length → xs = joined (roundsL l ts (pulsesFrom ws n) (List.range ts.length)) n m ∧ at' = -1) (hlose : ∀ k, k < ts.length → keepsTo l ts k → l.rL (ts[k]?.getD 0) = true → xs = List.replicate m 0 ∧ at' = k) :
    CallsIn Fence.wide 10 Try.prog 29 #[l.val, .slice a ws.length ca, .slice b ts.length cb] w (RetP w xs at') := by
  have HE := hid (show passErr l ws ts = 0 by unfold passErr; rw [if_pos h, if_pos (by unfold wordsErr; rw [if_pos hwl]; exact if_pos hok), if_pos hlt]; exact if_pos ht)
  have HX := hid hx
  have HY := hid hy
  have HWL := hid hwl
  have hle : Len ts.length := by omega
  have HM := hid hm
  have HN := hid hn
  clear hx hy hwl hm hn
  refine callsIn_of_wp_marks Try.func29 rfl trivial ?_ rfl
  simp only [Try.ntmps29, List.size_toArray, List.length_cons, List.length_nil, Nat.reduceAdd, Nat.reduceSub, Array.replicate_succ, Array.replicate_zero, List.push_toArray, List.append_toArray, List.nil_append, List.cons_append]
  have hL0 := hid (lnAt_call (lnAt_new' l w) (b_alloc (b_alloc (b_alloc (Below.refl _ _) (.cells #[.slice none 0 0] 35)) (.cells #[.int .i64 0] 3)) (.cells #[.int .i64 0] 26)))
  have r0 := hid (((Boxed.new (w.alloc (.cells #[.int .i64 l.W, .int .i64 l.B, .int .i64 l.P, .int .i64 l.D, .int .i64 l.S, .int .i64 l.N] 25)) 35 (.slice none 0 0)).alloc (.cells #[.int .i64 0] 3)).alloc (.cells #[.int .i64 0] 26))
  have r1 := hid ((Boxed.new ((w.alloc (.cells #[.int .i64 l.W, .int .i64 l.B, .int .i64 l.P, .int .i64 l.D, .int .i64 l.S, .int .i64 l.N] 25)).alloc (.cells #[.slice none 0 0] 35)) 3 (.int .i64 0)).alloc (.cells #[.int .i64 0] 26))
  have r2 := hid (Boxed.new (((w.alloc (.cells #[.int .i64 l.W, .int .i64 l.B, .int .i64 l.P, .int .i64 l.D, .int .i64 l.S, .int .i64 l.N] 25)).alloc (.cells #[.slice none 0 0] 35)).alloc (.cells #[.int .i64 0] 3)) 26 (.int .i64 0))
  gi_wp2_with (first
    | (refine ⟨trivial, ?_⟩; gi_at_call 63; refine (inWide (passError_any l a b ca cb ws ts hle _ (by exact HX.out.below (by (repeat (first | assumption | exact Below.refl _ _ | refine b_alloc ?_ _ | refine Below.drew ?_ | refine b_drewN ?_ _ | refine Below.setCell ?_ (by first | omega | (simp; done) | (simp; omega)) _ | refine b_call (by assumption) ?_)))) (by exact HY.out.below (by (repeat (first | assumption | exact Below.refl _ _ | refine b_alloc ?_ _ | refine Below.drew ?_ | refine b_drewN ?_ _ | refine Below.setCell ?_ (by first | omega | (simp; done) | (simp; omega)) _ | refine b_call (by assumption) ?_)))))).mono ?_; rintro e w1 ⟨rfl, hb1⟩; rw [HE.out]; have hB1 := hid (show Below w.heap.size w w1 by (repeat (first | assumption | exact Below.refl _ _ | refine b_alloc ?_ _ | refine Below.drew ?_ | refine b_drewN ?_ _ | refine Below.setCell ?_ (by first | omega | (simp; done) | (simp; omega)) _ | refine b_call (by assumption) ?_))); have hL1 := hid (lnAt_call hL0.out hb1); have s0 := hid (boxed_call r0.out hb1); have s1 := hid (boxed_call r1.out hb1); have s2 := hid (boxed_call r2.out hb1); obtain ⟨d0, d1, d2, d3, d4, d5⟩ := hL1.out; clear hb1)
    | (refine ⟨trivial, ?_⟩; gi_at_call 64; refine (inWide (pulsesOf_any l h a ca ws HWL.out hok _ (HX.out.below hB1.out))).mono ?_; rintro e w2 ⟨g, cap, rfl, hrow2, hb2⟩; have hB2 := hid (b_call hb2 hB1.out); have hL2 := hid (lnAt_call hL1.out hb2); have t0 := hid (boxed_call s0.out hb2); have t1 := hid (boxed_call s1.out hb2); have t2 := hid (boxed_call s2.out hb2); clear d0 d1 d2 d3 d4 d5; obtain ⟨d0, d1, d2, d3, d4, d5⟩ := hL2.out; have hz2 := World.block_lt_of_cell? _ _ d0; simp only at hz2; have HR2 := hid hrow2; have HB2 := hid hb2; clear hrow2 hb2)
    | (refine ⟨trivial, ?_⟩; gi_at_call 65; refine (inWide (rounds_any l _ _ _ _)).mono ?_; rintro e w3 ⟨rfl, rfl⟩))
  obtain ⟨nb, hnb⟩ : ∃ nb, (pulsesFrom ws l.B.toNat).length = nb := ⟨_, rfl⟩
  have hN : l.B.toNat = n := by have := HN.out; omega
  rw [hN] at hnb HR2 ⊢
  rw [List.length_map, hnb] at HR2
  rw [hnb]
  have hnbm : nb = m * n := by rw [← hnb, pulsesFrom_len]; have h1 := HWL.out; have h2 := HM.out; rw [show ws.length = m by omega]
  subst hnbm
  obtain ⟨B, hBdef⟩ : ∃ B, w2.heap.size = B := ⟨_, rfl⟩
  rw [hBdef] at hz2 ⊢
  obtain ⟨W0, hW0⟩ : ∃ W0, ((w2.alloc (.cells #[.slice (some ⟨g, 0, none⟩) (m * n) cap] 91)).alloc (.cells #[.int .i64 l.W, .int .i64 l.B, .int .i64 l.P, .int .i64 l.D, .int .i64 l.S, .int .i64 l.N] 25)).alloc (.cells #[.slice b ts.length cb] 35) = W0 := ⟨_, rfl⟩
  rw [hW0]
  have hsz : W0.heap.size = B + 3 := by rw [← hW0, ← hBdef]; simp
  have x0 : Boxed W0 B 91 (.slice (some ⟨g, 0, none⟩) (m * n) cap) := by rw [← hW0, ← hBdef]; exact ((Boxed.new _ _ _).alloc _).alloc _
  have hLB : LnAt (B + 1) l W0 := by
    rw [← hW0, ← hBdef]
    have := lnAt_new' l (w2.alloc (.cells #[.slice (some ⟨g, 0, none⟩) (m * n) cap] 91))
    rw [World.size_alloc] at this
    exact lnAt_call this (b_alloc (Below.refl _ _) _)
  have hTB : W0.cell? ⟨B + 2, 0, none⟩ = some (.slice b ts.length cb) := by
    rw [← hW0, ← hBdef]
    have := (Boxed.new ((w2.alloc (.cells #[.slice (some ⟨g, 0, none⟩) (m * n) cap] 91)).alloc (.cells #[.int .i64 l.W, .int .i64 l.B, .int .i64 l.P, .int .i64 l.D, .int .i64 l.S, .int .i64 l.N] 25)) 35 (.slice b ts.length cb)).cell
    simpa using this
  have hB20 : Below w2.heap.size w2 W0 := by rw [← hW0]; exact b_alloc (b_alloc (b_alloc (Below.refl _ _) _) _) _
  have hB0 : Below w.heap.size w W0 := b_call hB20 hB2.out
  have y0 := boxed_call t0.out hB20
  have y1 := boxed_call t1.out hB20
  have y2 := boxed_call t2.out hB20
  have hLs := lnAt_call hL2.out hB20
  have hrow0 : W0.ownsRow w.heap.size 4 1 (.slice (some ⟨g, 0, none⟩) (m * n) cap) (m * n) ((pulsesFrom ws n).map Value.bool) := by
    have := ownsRow_low HR2.out hB1.out.size
    rw [← hW0]; exact ((this.alloc _).alloc _).alloc _
  simp only [World.size_alloc] at y0 y1 y2
  obtain ⟨s, hs⟩ : ∃ s, w.heap.size = s := ⟨_, rfl⟩
  have hz3 := t2.out.lt
  simp only [World.size_alloc] at hz3
  rw [hBdef] at hz3
  rw [hs] at hB0 y0 y1 y2 hLs hrow0 hz2 hz3 ⊢
  have hIT := hid (show ∀ W', Keeps (B + 3) B W0 W' → IntsAt W' b ts from fun W' hk j hj => by
    obtain ⟨b1, off, e1, hc⟩ := HY.out j hj
    have hlt1 := World.block_lt_of_cell? w _ hc
    simp only [hs] at hlt1
    have e2 := (hB0.cell (p := ⟨b1, off + j, none⟩) hlt1).trans hc
    exact ⟨b1, off, e1, (hk.cell (b := b1) (by omega) (by omega)).trans e2⟩)
  refine wpIn_rangeFunc_ownH rfl (by omega) (gf := 92) (lb := #[.pointer (some ⟨B + 1 + 1, 0, none⟩), .pointer (some ⟨B + 1, 0, none⟩)]) rfl trivial (enters_of Try.func92 (by kernel_rfl) rfl)
    (rounds_stops l h ts hlt ht b cb 9 (B + 2) (B + 1) (B + 3) B (by omega) W0 (by omega) (by omega) (by omega) hLB hTB hIT.out) Keeps.trans (keepsK_b (by omega)) (Below.refl _ _) (fun _ => rfl)
    (PassI l ts ws n s B (m * n) w) (PassX l ts m s w) (passI_own hs hsz (by omega)) (fun c => passX_own hs hsz (by omega) c)
    ⟨(fun j hj => by cases hj), ⟨g, cap, x0, hrow0⟩, y0, y1, y2, hLs, hB0, by omega⟩
    (fun k a' W => ∃ Bx, B + 3 ≤ Bx ∧ W.heap[Bx]? = some (.cells #[.int .i64 (l.rS (ts[k]?.getD 0)), .bool (l.rL (ts[k]?.getD 0))] 81 (0, 0)) ∧
      a' = { tmps := #[l.val, .slice a ws.length ca, .slice b ts.length cb, .pointer (some ⟨s, 0, none⟩), undef, undef, .pointer (some ⟨s + 1, 0, none⟩), .pointer (some ⟨s + 1 + 1, 0, none⟩), .pointer (some ⟨s + 1 + 1 + 1, 0, none⟩), .int .i64 0, .pointer (some ⟨B, 0, none⟩), .int .i64 (k : Int), .pointer (some ⟨Bx, 0, none⟩), l.val, .slice a ws.length ca, .slice b ts.length cb, .int .i64 0, .int .i64 0, .bool false, undef, l.val, .slice a ws.length ca, .slice (some ⟨g, 0, none⟩) (m * n) cap, l.val, .slice b ts.length cb, .func (.func 92) #[] #[.pointer (some ⟨B + 1 + 1, 0, none⟩), .pointer (some ⟨B + 1, 0, none⟩)], .int .i64 (k : Int), .agg #[.int .i64 (l.rS (ts[k]?.getD 0)), .bool (l.rL (ts[k]?.getD 0))], undef, undef, undef, undef, undef, undef, undef, undef, undef, undef, undef, undef, undef], defers := [] }) ?hAx ?assign ?body ?done ?stop
  case hAx =>
    intro k a'
    exact own_of_same fun _ W W' hA hS => by
      obtain ⟨Bx, h1, h2, h3⟩ := hA
      exact ⟨Bx, h1, hS.cells _ _ h2 rfl, h3⟩
  case assign =>
    intro l1 pre k W K hI hK
    obtain ⟨i1, ⟨g1, c1, i2, i3⟩, i4, i5, i6, i7, i8, i9⟩ := hI
    have hK := hid hK
    gi_wp2
    refine hK.out _ _ ((KeepsOthers.alloc _ _).from _) (Keeps.of_below ((Below.refl W.heap.size W).alloc (Nat.le_refl _) _) i9) ⟨i1, ⟨g1, c1, i2.alloc _, i3.alloc _⟩, i4.alloc _, i5.alloc _, i6.alloc _, lnAt_call i7 ((Below.refl _ _).alloc (Nat.le_refl _) _), i8.alloc (by have := i8.size; omega) _, by simp; omega⟩ ⟨W.heap.size, i9, World.alloc_heap_new _ _, rfl⟩
  case body =>
    rintro l1 pre k a' W hl1 ⟨r, hr⟩ ⟨i1, ⟨g1, c1, i2, i3⟩, i4, i5, i6, ⟨a0, a1, a2, a3, a4, a5⟩, i8, i9⟩ ⟨Bx, hBx, hbox, rfl⟩ hlen
    have k0 : W.cell? ⟨Bx, 0, none⟩ = some (.int .i64 (l.rS (ts[k]?.getD 0))) := by simp [World.cell?, hbox]
    have k1 : W.cell? ⟨Bx, 1, none⟩ = some (.bool (l.rL (ts[k]?.getD 0))) := by simp [World.cell?, hbox]
    cases hL : l.rL (ts[k]?.getD 0) with
    | true =>
      rw [hL] at k1
      have HL := hid hL
      clear hL hbox hr
      obtain ⟨iI, hiI0, hzI0, hzI1, hzI2⟩ := info_parts infoI
      gi_wp2_with (gi_at_make; refine make_full_in _ rfl _ _ 35 rfl s 3 iI (.int .i64 0) 1 Try.underlying35 hiI0 hzI0 hzI1 .i64 .i64 l.W l.W m rfl rfl HM.out HM.out (by rw [hzI2]; have := h.1.2; have := HM.out; omega) (by unfold maxLen; have := h.1.2; have := HM.out; omega) (by omega) ?_; intro W2 hown hgrow; have b4 := i4.kept hgrow (by simp); have b5 := i5.kept hgrow (by simp); have b6 := i6.kept hgrow (by simp); have e1 := b4.cell; have e1' := b4.frozen; have e2 := (b5.other (B' := s + 1) (by omega) (.slice (some ⟨W.heap.size, 0, none⟩) m m)).cell; have e2' := (b5.other (B' := s + 1) (by omega) (.slice (some ⟨W.heap.size, 0, none⟩) m m)).frozen; have e3 := ((b6.other (B' := s + 1) (by omega) (.slice (some ⟨W.heap.size, 0, none⟩) m m)).other (B' := s + 1 + 1) (by omega) (.int .i64 k)).cell; have e3' := ((b6.other (B' := s + 1) (by omega) (.slice (some ⟨W.heap.size, 0, none⟩) m m)).other (B' := s + 1 + 1) (by omega) (.int .i64 k)).frozen; have B4 := hid b4; have B5 := hid b5; have B6 := hid b6; clear b4 b5 b6)
      have hz : (madeCells (Value.int .i64 0).cells (m * 1)).toList = List.replicate m (.int .i64 0) := by rw [Nat.mul_one]; exact toList_madeCells_one _ _
      rw [hz] at hown
      rw [hsz]
      refine ⟨?_, rfl, pre, k, rfl, i1, HL.out, ⟨W.heap.size, ?_, ?_⟩, ?_, ?_, ?_⟩
      · exact (((KeepsFrom.of_grownBy hgrow (by simp)).trans (.of_grownBy (grownBy_setCell' _ _ _) (by intro j hj; cases hj; omega))).trans (.of_grownBy (grownBy_setCell' _ _ _) (by intro j hj; cases hj; omega))).trans (.of_grownBy (grownBy_setCell' _ _ _) (by intro j hj; cases hj; omega))
      · exact ((B4.out.set _).other (by omega) _).other (by omega) _
      · exact ((hown.kept (grownBy_setCell' _ _ _) (.inr (by simp [Value.ownBlock]; omega))).kept (grownBy_setCell' _ _ _) (.inr (by simp [Value.ownBlock]; omega))).kept (grownBy_setCell' _ _ _) (.inr (by simp [Value.ownBlock]; omega))
      · exact ((B5.out.other (by omega) _).set _).other (by omega) _
      · exact ((B6.out.other (by omega) _).other (by omega) _).set _
      · exact (((i8.grown hgrow (by omega) (by simp)).setCell (by simp) _).setCell (by simp; omega) _).setCell (by simp; omega) _
    | false =>
      rw [hL] at k1
      have HL := hid hL
      clear hL hbox hr
      have jB := i2.cell
      have hq : (roundsL l ts (pulsesFrom ws n) pre).length = m * n := by rw [roundsL_len, pulsesFrom_len]; have h1 := HWL.out; have h2 := HM.out; rw [show ws.length = m by omega]
      have hp : (pulsesFrom ws n).length = m * n := by rw [roundsL_len] at hq; exact hq
      have hmn : 1 ≤ m * n ∧ m * n ≤ 2560 := by
        have h1 := h.1; have h2 := h.2.1; have h3 := HM.out; have h4 := HN.out
        exact ⟨Nat.mul_pos (by omega) (by omega), Nat.le_trans (Nat.mul_le_mul (show m ≤ 64 by omega) (show n ≤ 40 by omega)) (by omega)⟩
      have hcap : m * n ≤ c1 := by
        rcases i3.2 with ⟨e, _⟩ | ⟨g', c', cur, e, _, _, h1, _⟩
        · cases e
        · cases e; exact h1
      have hC := turn_any (roundsL l ts (pulsesFrom ws n) pre) (by omega) (by omega) g1 c1 (by omega) (l.rS (ts[k]?.getD 0)) W (rowAt_of_owns i3)
      have hrot : rot (roundsL l ts (pulsesFrom ws n) pre) (l.rS (ts[k]?.getD 0) % ((m * n : Nat) : Int)).toNat = roundsL l ts (pulsesFrom ws n) (pre ++ [k]) := by rw [roundsL_snoc, hp]
      have hqs : (roundsL l ts (pulsesFrom ws n) (pre ++ [k])).length = m * n := by rw [roundsL_len, hp]
      rw [hq, hrot] at hC
      have HC := hid hC
      have HQ := hid hqs
      clear hC hrot hq hqs hp
      gi_wp2_with (refine ⟨trivial, ?_⟩; gi_at_call 66; refine (inWideRound l1 HC.out).mono ?_; rintro e W2 ⟨g2, c2, rfl, hr2, hb2⟩; have b3 := boxed_call i2 hb2; have e1 := b3.cell; have e1' := b3.frozen; have B3 := hid b3; have R2 := hid hr2; have HB := hid hb2; clear b3 hr2 hb2)
      have hb2 := HB.out
      have hz2' := hb2.size
      have r3 := R2.out
      rw [List.length_map, HQ.out] at r3
      rw [HQ.out, hsz]
      have hgB : g2 ≠ B := by have := r3.lt g2 rfl; omega
      refine ⟨?_, ?_, ?_, ⟨g2, c2, B3.out.set _, (ownsRow_low r3 (by omega)).kept (grownBy_setCell' _ _ _) (.inr (by simp [Value.ownBlock]; omega))⟩, ?_, ?_, ?_, ?_, ?_, ?_⟩
      · exact KeepsFrom.trans ((KeepsOthers.mk hb2.size fun k o hk _ => (hb2.block k (Array.getElem?_eq_some_iff.1 hk).1).trans hk).from _) (.of_grownBy (grownBy_setCell' _ _ _) (by intro j hj; cases hj; omega))
      · exact (Keeps.of_below hb2 (by omega)).trans ⟨(grownBy_setCell' _ _ _).size, fun i hi hx => (grownBy_setCell' _ _ _).block i (by omega) (by simp; omega)⟩
      · intro j hj
        rcases List.mem_append.1 hj with hj | hj
        · exact i1 j hj
        · rw [List.mem_singleton.1 hj]; exact HL.out
      · exact (boxed_call i4 hb2).other (by omega) _
      · exact (boxed_call i5 hb2).other (by omega) _
      · exact (boxed_call i6 hb2).other (by omega) _
      · exact lnAt_other (lnAt_call ⟨a0, a1, a2, a3, a4, a5⟩ hb2) (by omega) _
      · exact (i8.trans (hb2.mono (by omega))).setCell (by simp; omega) _
      · have := (grownBy_setCell' W2 B (.slice (some ⟨g2, 0, none⟩) (m * n) c2)).size; omega
  case done =>
    rintro D pre W hD hpre ⟨i1, ⟨g1, c1, i2, i3⟩, i4, i5, i6, i7, i8, i9⟩ hdef
    subst hpre
    have hq : (roundsL l ts (pulsesFrom ws n) (List.range ts.length)).length = m * n := by rw [roundsL_len, pulsesFrom_len]; have h1 := HWL.out; have h2 := HM.out; rw [show ws.length = m by omega]
    have hC := wordsOf_any l h m n HM.out HN.out (roundsL l ts (pulsesFrom ws n) (List.range ts.length)) hq g1 c1 W (rowAt_of_owns i3)
    rw [hq] at hC
    obtain ⟨hxs, rfl⟩ := hkeep i1
    rw [← hxs] at hC
    generalize xs = js at *
    have HC := hid hC
    have HXS := hid hxs
    clear hxs
    obtain ⟨a0, a1, a2, a3, a4, a5⟩ := i7
    have jB := i2.cell
    clear hC hq
    gi_wp2_with (refine ⟨trivial, ?_⟩; gi_at_call 67; refine (inWide HC.out).mono ?_; rintro e W2 ⟨g2, c2, rfl, hr2, hb2⟩; have b4 := boxed_call i4 hb2; have b5 := boxed_call i5 hb2; have b6 := boxed_call i6 hb2; have HB := hid hb2; have R2 := hid hr2; clear hr2; have e1 := b4.cell; have e1' := b4.frozen; have e2 := (b5.other (B' := s + 1) (by omega) (.slice (some ⟨g2, 0, none⟩) js.length c2)).cell; have e2' := (b5.other (B' := s + 1) (by omega) (.slice (some ⟨g2, 0, none⟩) js.length c2)).frozen; have e3 := ((b6.other (B' := s + 1) (by omega) (.slice (some ⟨g2, 0, none⟩) js.length c2)).other (B' := s + 1 + 1) (by omega) (.int .i64 (-1))).cell; have e3' := ((b6.other (B' := s + 1) (by omega) (.slice (some ⟨g2, 0, none⟩) js.length c2)).other (B' := s + 1 + 1) (by omega) (.int .i64 (-1))).frozen; have B4 := hid b4; have B5 := hid b5; have B6 := hid b6; clear b4 b5 b6)
    have hb2 := HB.out
    have hz4 := hb2.size
    have hjl : js.length = m := by rw [HXS.out]; simp [joined]
    have r3 := R2.out
    rw [List.length_map] at r3
    have hgs : W.heap.size ≤ g2 := (r3.lt g2 rfl).1
    have y1 := ((B4.out.set (.slice (some ⟨g2, 0, none⟩) js.length c2)).other (B' := s + 1 + 1) (by omega) (.int .i64 (-1))).other (B' := s + 1 + 1 + 1) (by omega) (.int .i64 0)
    have y2 := ((B5.out.other (B' := s + 1) (by omega) (.slice (some ⟨g2, 0, none⟩) js.length c2)).set (.int .i64 (-1))).other (B' := s + 1 + 1 + 1) (by omega) (.int .i64 0)
    have y3 := ((B6.out.other (B' := s + 1) (by omega) (.slice (some ⟨g2, 0, none⟩) js.length c2)).other (B' := s + 1 + 1) (by omega) (.int .i64 (-1))).set (.int .i64 0)
    have yr := (((ownsRow_low r3 (show s ≤ W.heap.size by omega)).kept (grownBy_setCell' W2 (s + 1) (.slice (some ⟨g2, 0, none⟩) js.length c2)) (.inr (by simp [Value.ownBlock]; omega))).kept (grownBy_setCell' _ (s + 1 + 1) (.int .i64 (-1))) (.inr (by simp [Value.ownBlock]; omega))).kept (grownBy_setCell' _ (s + 1 + 1 + 1) (.int .i64 0)) (.inr (by simp [Value.ownBlock]; omega))
    have yb := (((i8.trans (hb2.mono (by omega))).setCell (p := ⟨s + 1, 0, none⟩) (by simp) (.slice (some ⟨g2, 0, none⟩) js.length c2)).setCell (p := ⟨s + 1 + 1, 0, none⟩) (by simp; omega) (.int .i64 (-1))).setCell (p := ⟨s + 1 + 1 + 1, 0, none⟩) (by simp; omega) (.int .i64 0)
    have hd2 : W2.heap[D]? = some (.deferred (some [])) := (hb2.block D (Array.getElem?_eq_some_iff.1 hdef).1).trans hdef
    have hd3 := (((KeepsOthers.setCell W2 ⟨s + 1, 0, none⟩ (.slice (some ⟨g2, 0, none⟩) js.length c2)).trans (KeepsOthers.setCell _ ⟨s + 1 + 1, 0, none⟩ (.int .i64 (-1)))).trans (KeepsOthers.setCell _ ⟨s + 1 + 1 + 1, 0, none⟩ (.int .i64 0))).same D _ hd2 rfl
    clear B4 B5 B6 R2 HB e1 e1' e2 e2' e3 e3'
    generalize World.setCell (World.setCell (World.setCell W2 ⟨s + 1, 0, none⟩ (.slice (some ⟨g2, 0, none⟩) js.length c2)) ⟨s + 1 + 1, 0, none⟩ (.int .i64 (-1))) ⟨s + 1 + 1 + 1, 0, none⟩ (.int .i64 0) = W3 at *
    obtain ⟨z1, z2, z3, zz⟩ := pass_end hs (by omega) y1 y2 y3 yr rfl yb hd3
    refine ⟨by simp, .inl ⟨_, _, rfl, run_takeDeferred hd3, ?_⟩⟩
    refine ⟨.tuple #[.slice (some ⟨g2, 0, none⟩) js.length c2, .int .i64 (-1), .int .i64 0], ?_, zz⟩
    simp [results, Try.f29, go_sem, z1, z2, z3]
  case stop =>
    rintro D c pre W hD hpre ⟨rfl, p, k, e, i1, hL, ⟨g1, i2, i3⟩, i4, i5, i6⟩ hdef
    gi_wp2
    obtain ⟨k', hk', rfl⟩ := hpre
    obtain ⟨q, rfl⟩ : ∃ q, k' = q + 1 := ⟨k' - 1, by cases k' with | zero => simp at e | succ q => rfl⟩
    rw [List.range_succ] at e
    obtain ⟨e1, e2⟩ := List.append_inj' e rfl
    cases e2
    subst e1
    obtain ⟨hxs, rfl⟩ := hlose k (by omega) i1 hL
    have hxl : xs.length = m := by rw [hxs, List.length_replicate]
    have hmap : xs.map (Value.int .i64) = List.replicate m (.int .i64 0) := by rw [hxs, List.map_replicate]
    rw [← hmap] at i3
    obtain ⟨z1, z2, z3, zz⟩ := pass_end hs (by omega) i2 i4 i5 i3 hxl i6 hdef
    refine ⟨by simp, .inl ⟨_, _, rfl, run_takeDeferred hdef, ?_⟩⟩
    refine ⟨.tuple #[.slice (some ⟨g1, 0, none⟩) m m, .int .i64 k, .int .i64 0], ?_, zz⟩
    simp [results, Try.f29, go_sem, z1, z2, z3]
end Go.Proofs.Ytlocdkjnefmiaaa
namespace Go.Proofs.Ytlocdkjnefmiaaa
open Go.RowKit Go.Shelf
set_option linter.unusedVariables false
set_option linter.unusedSimpArgs false
attribute [local go_sem] Oper.semAt_some

theorem Pass_ok (l : Ln) (h : l.Ok) (m n : Nat) (hm : l.W = (m : Int)) (hn : l.B = (n : Int)) (a b : Option Addr) (ca cb : Nat) (ws ts : List Int) (hwl : (ws.length : Int) = l.W) (hok : wordsOk l.B ws) (hlt : ts.length ≤ 60) (ht : tempsOk ts) (w : World) (hx : IntsAt w a ws) (hy : IntsAt w b ts)
    (xs : List Int) (at' : Int) (hkeep : keepsTo l ts ts.length → xs = joined (roundsL l ts (pulsesFrom ws n) (List.range ts.length)) n m ∧ at' = -1) (hlose : ∀ k, k < ts.length → keepsTo l ts k → l.rL (ts[k]?.getD 0) = true → xs = List.replicate m 0 ∧ at' = k) :
    Calls Try.prog 29 #[l.val, .slice a ws.length ca, .slice b ts.length cb] w (RetP w xs at') :=
  callsIn_wide.1 (Pass_in l h m n hm hn a b ca cb ws ts hwl hok hlt ht w hx hy xs at' hkeep hlose)

set_option maxRecDepth 100000 in
set_option maxHeartbeats 1000000 in
theorem Pass_err (l : Ln) (a b : Option Addr) (ca cb : Nat) (ws ts : List Int) (hle : Len ts.length) (hne : passErr l ws ts ≠ 0) (w : World) (hx : IntsAt w a ws) (hy : IntsAt w b ts) :
    Calls Try.prog 29 #[l.val, .slice a ws.length ca, .slice b ts.length cb] w (Ret w (.tuple #[.slice none 0 0, .int .i64 0, .int .i64 (passErr l ws ts)])) := by
  have HX := hid hx
  have HY := hid hy
  clear hx hy
  refine calls_of_wp Try.func29 rfl ?_
  simp only [Try.ntmps29, List.size_toArray, List.length_cons, List.length_nil, Nat.reduceAdd, Nat.reduceSub, Array.replicate_succ, Array.replicate_zero, List.push_toArray, List.append_toArray, List.nil_append, List.cons_append]
  have r0 := hid (((Boxed.new (w.alloc (.cells #[.int .i64 l.W, .int .i64 l.B, .int .i64 l.P, .int .i64 l.D, .int .i64 l.S, .int .i64 l.N] 25)) 35 (.slice none 0 0)).alloc (.cells #[.int .i64 0] 3)).alloc (.cells #[.int .i64 0] 26))
  have r1 := hid ((Boxed.new ((w.alloc (.cells #[.int .i64 l.W, .int .i64 l.B, .int .i64 l.P, .int .i64 l.D, .int .i64 l.S, .int .i64 l.N] 25)).alloc (.cells #[.slice none 0 0] 35)) 3 (.int .i64 0)).alloc (.cells #[.int .i64 0] 26))
  have r2 := hid (Boxed.new (((w.alloc (.cells #[.int .i64 l.W, .int .i64 l.B, .int .i64 l.P, .int .i64 l.D, .int .i64 l.S, .int .i64 l.N] 25)).alloc (.cells #[.slice none 0 0] 35)).alloc (.cells #[.int .i64 0] 3)) 26 (.int .i64 0))
  go_wp2_with (go_at_call 63; refine (passError_any l a b ca cb ws ts hle _ (by exact HX.out.below (by (repeat (first | assumption | exact Below.refl _ _ | refine b_alloc ?_ _ | refine Below.drew ?_ | refine b_drewN ?_ _ | refine Below.setCell ?_ (by first | omega | (simp; done) | (simp; omega)) _ | refine b_call (by assumption) ?_)))) (by exact HY.out.below (by (repeat (first | assumption | exact Below.refl _ _ | refine b_alloc ?_ _ | refine Below.drew ?_ | refine b_drewN ?_ _ | refine Below.setCell ?_ (by first | omega | (simp; done) | (simp; omega)) _ | refine b_call (by assumption) ?_))))).mono ?_; rintro e w1 ⟨rfl, hb1⟩; have hB1 := hid (show Below w.heap.size w w1 by (repeat (first | assumption | exact Below.refl _ _ | refine b_alloc ?_ _ | refine Below.drew ?_ | refine b_drewN ?_ _ | refine Below.setCell ?_ (by first | omega | (simp; done) | (simp; omega)) _ | refine b_call (by assumption) ?_))); have s0 := boxed_call r0.out hb1; have s1 := boxed_call r1.out hb1; have s2 := boxed_call r2.out hb1; generalize passErr l ws ts = pe at *; simp only [World.size_alloc] at s0 s1 s2; have e1 := s0.cell; have e1' := s0.frozen; have e2 := (s1.other (B' := w.heap.size + 1) (by omega) (.slice none 0 0)).cell; have e2' := (s1.other (B' := w.heap.size + 1) (by omega) (.slice none 0 0)).frozen; have e3 := ((s2.other (B' := w.heap.size + 1) (by omega) (.slice none 0 0)).other (B' := w.heap.size + 1 + 1) (by omega) (.int .i64 0)).cell; have e3' := ((s2.other (B' := w.heap.size + 1) (by omega) (.slice none 0 0)).other (B' := w.heap.size + 1 + 1) (by omega) (.int .i64 0)).frozen; have S0 := hid s0; have S1 := hid s1; have S2 := hid s2; clear hb1 r0 r1 r2 s0 s1 s2)
  have y1 := ((S0.out.set (.slice none 0 0)).other (B' := w.heap.size + 1 + 1) (by omega) (.int .i64 0)).other (B' := w.heap.size + 1 + 1 + 1) (by omega) (.int .i64 pe)
  have y2 := ((S1.out.other (B' := w.heap.size + 1) (by omega) (.slice none 0 0)).set (.int .i64 0)).other (B' := w.heap.size + 1 + 1 + 1) (by omega) (.int .i64 pe)
  have y3 := ((S2.out.other (B' := w.heap.size + 1) (by omega) (.slice none 0 0)).other (B' := w.heap.size + 1 + 1) (by omega) (.int .i64 0)).set (.int .i64 pe)
  have yb := ((hB1.out.setCell (p := ⟨w.heap.size + 1, 0, none⟩) (by simp) (.slice none 0 0)).setCell (p := ⟨w.heap.size + 1 + 1, 0, none⟩) (by simp; omega) (.int .i64 0)).setCell (p := ⟨w.heap.size + 1 + 1 + 1, 0, none⟩) (by simp; omega) (.int .i64 pe)
  have z1 := y1.cell
  have z2 := y2.cell
  have z3 := y3.cell
  refine ⟨rfl, .tuple #[.slice none 0 0, .int .i64 0, .int .i64 pe], ?_, rfl, yb⟩
  simp [results, Try.f29, go_sem, z1, z2, z3]
end Go.Proofs.Ytlocdkjnefmiaaa
namespace Go.Proofs.Ytlocdkjnefmiaaa
open Go.RowKit Go.Shelf
set_option linter.unusedVariables false
set_option linter.unusedSimpArgs false

/-- The first round in which pulses are lost. -/
def firstLost (l : Ln) (ts : List Int) : Option Nat := (List.range ts.length).find? fun k => l.rL (ts[k]?.getD 0)
def passOut (l : Ln) (ws ts : List Int) : List Int × Int :=
  match firstLost l ts with
  | some k => (List.replicate l.W.toNat 0, (k : Int))
  | none => (joined (roundsL l ts (pulsesFrom ws l.B.toNat) (List.range ts.length)) l.B.toNat l.W.toNat, -1)
theorem firstLost_some {l : Ln} {ts : List Int} {k : Nat} (h : firstLost l ts = some k) : k < ts.length ∧ l.rL (ts[k]?.getD 0) = true ∧ ∀ j, j < k → l.rL (ts[j]?.getD 0) = false := by
  unfold firstLost at h
  have h1 := List.find?_some h
  have h2 := List.mem_of_find?_eq_some h
  refine ⟨by simpa using h2, h1, fun j hj => ?_⟩
  rw [List.find?_range_eq_some] at h
  have := h.2.2 j hj
  simpa using this
theorem firstLost_none {l : Ln} {ts : List Int} (h : firstLost l ts = none) : ∀ j, j < ts.length → l.rL (ts[j]?.getD 0) = false := by
  unfold firstLost at h
  rw [List.find?_eq_none] at h
  intro j hj
  have := h j (by simpa using hj)
  simpa using this
theorem passErr_zero {l : Ln} {ws ts : List Int} (h : passErr l ws ts = 0) : l.Ok ∧ (ws.length : Int) = l.W ∧ wordsOk l.B ws ∧ ts.length ≤ 60 ∧ tempsOk ts := by
  unfold passErr at h
  split at h
  · rename_i h1
    split at h
    · rename_i h2
      split at h
      · rename_i h3
        unfold tErr at h
        unfold wordsErr wErr at h2
        split at h2
        · rename_i h4
          split at h2
          · rename_i h5
            split at h
            · exact ⟨h1, h4, h5, h3, by assumption⟩
            · omega
          · omega
        · omega
      · omega
    · rename_i h2; exact absurd h h2
  · omega
theorem passErr_cases (l : Ln) (ws ts : List Int) : passErr l ws ts = 0 ∨ passErr l ws ts = 3 ∨ passErr l ws ts = 7 := by
  unfold passErr tErr
  have := wordsErr_cases l ws
  split
  · split
    · split
      · split <;> simp
      · simp
    · omega
  · simp
theorem Pass_out (l : Ln) (a b : Option Addr) (ca cb : Nat) (ws ts : List Int) (h0 : passErr l ws ts = 0) (w : World) (hx : IntsAt w a ws) (hy : IntsAt w b ts) :
    Calls Try.prog 29 #[l.val, .slice a ws.length ca, .slice b ts.length cb] w (RetP w (passOut l ws ts).1 (passOut l ws ts).2) := by
  obtain ⟨h, hwl, hok, hlt, ht⟩ := passErr_zero h0
  obtain ⟨h1, h2, _⟩ := id h
  refine Pass_ok l h l.W.toNat l.B.toNat (by omega) (by omega) a b ca cb ws ts hwl hok hlt ht w hx hy _ _ (fun hk => ?_) (fun k hk hkeep hl => ?_)
  · have e : firstLost l ts = none := by
      cases hf : firstLost l ts with
      | none => rfl
      | some k =>
        have := firstLost_some hf
        have h3 := hk k (by simpa using this.1)
        rw [h3] at this
        simp at this
    unfold passOut; rw [e]; exact ⟨rfl, rfl⟩
  · have e : firstLost l ts = some k := by
      cases hf : firstLost l ts with
      | none => have := firstLost_none hf k hk; rw [hl] at this; cases this
      | some j =>
        have g := firstLost_some hf
        rcases Nat.lt_trichotomy j k with hj | hj | hj
        · have h3 := hkeep j (by simpa using hj)
          rw [h3] at g; simp at g
        · rw [hj]
        · have h3 := g.2.2 k hj
          rw [hl] at h3; cases h3
    unfold passOut; rw [e]; exact ⟨rfl, rfl⟩

/-! ### Words and their pulses -/
theorem val_bits (n : Nat) : ∀ x : Int, 0 ≤ x → x < 2 ^ n → val (bitsOf x n) = x := by
  induction n with
  | zero => intro x h0 h1; simp at h1; have : x = 0 := by omega
            subst this; rfl
  | succ n ih =>
    intro x h0 h1
    rw [Int.pow_succ] at h1
    have hb : bitsOf x (n + 1) = bitOf x 0 :: bitsOf (x / 2) n := by
      unfold bitsOf
      rw [List.range_succ_eq_map, List.map_cons, List.map_map]
      congr 1
      apply List.map_congr_left
      intro k _
      show bitOf x (k + 1) = bitOf (x / 2) k
      unfold bitOf
      rw [Int.pow_succ, Int.mul_comm, Int.ediv_ediv_of_nonneg (by omega)]
    rw [hb, val, ih (x / 2) (by omega) (by omega)]
    unfold bitOf
    simp only [Int.pow_zero, Int.ediv_one]
    by_cases e : x % 2 = 1
    · simp [e]; omega
    · simp [e]; omega
theorem pulses_cons (x : Int) (ws : List Int) (n : Nat) : pulsesFrom (x :: ws) n = bitsOf x n ++ pulsesFrom ws n := by simp [pulsesFrom]
theorem drop_pulses (n : Nat) : ∀ (ws : List Int) (i : Nat), (pulsesFrom ws n).drop (i * n) = pulsesFrom (ws.drop i) n := by
  intro ws i
  induction i generalizing ws with
  | zero => simp
  | succ i ih =>
    cases ws with
    | nil => simp [pulsesFrom]
    | cons x ws =>
      rw [pulses_cons, Nat.succ_mul, Nat.add_comm, ← List.drop_drop, List.drop_left' (bitsOf_len x n), ih, List.drop_succ_cons]
theorem joined_pulses {ws : List Int} {n : Nat} (h : ∀ x ∈ ws, 0 ≤ x ∧ x < 2 ^ n) : joined (pulsesFrom ws n) n ws.length = ws := by
  apply List.ext_getElem
  · simp [joined]
  · intro i h1 h2
    simp only [joined, List.getElem_map, List.getElem_range]
    unfold wordAt
    rw [List.take_length, drop_pulses, List.drop_eq_getElem_cons h2, pulses_cons, List.take_left' (bitsOf_len _ _)]
    exact val_bits n _ (h _ (List.getElem_mem h2)).1 (h _ (List.getElem_mem h2)).2
theorem rot_zero (ps : List Bool) : rot ps 0 = ps := by simp [rot]
theorem pw_nat {b : Int} : pw b = 2 ^ b.toNat := rfl

/-! ### Pass, as a law meets it -/
def passXs (l : Ln) (ws ts : List Int) : List Int := if passErr l ws ts = 0 then (passOut l ws ts).1 else []
def passAt (l : Ln) (ws ts : List Int) : Int := if passErr l ws ts = 0 then (passOut l ws ts).2 else 0
/-- The call returns a slice of numbers, and two numbers. -/
def RetL (w : World) (xs : List Int) (n e' : Int) (e : Ending) (w' : World) : Prop :=
  ∃ a cap, e = .returned (.tuple #[.slice a xs.length cap, .int .i64 n, .int .i64 e']) ∧ IntsAt w' a xs ∧ Below w.heap.size w w'
theorem intsOfRow {W : World} {base g n c : Nat} {xs : List Int} (h : W.ownsRow base 3 1 (.slice (some ⟨g, 0, none⟩) n c) n (xs.map (Value.int .i64))) : IntsAt W (some ⟨g, 0, none⟩) xs := fun j hj => by
  refine ⟨g, 0, rfl, ?_⟩
  have hn := h.1
  rw [List.length_map] at hn
  rw [Nat.zero_add]
  refine (h.cellAt j (by omega)).trans ?_
  simp [hj]
theorem Pass_law (l : Ln) (a b : Option Addr) (ca cb : Nat) (ws ts : List Int) (hle : Len ts.length) (w : World) (hx : IntsAt w a ws) (hy : IntsAt w b ts) :
    Calls Try.prog 29 #[l.val, .slice a ws.length ca, .slice b ts.length cb] w (RetL w (passXs l ws ts) (passAt l ws ts) (passErr l ws ts)) := by
  unfold passXs passAt
  by_cases h0 : passErr l ws ts = 0
  · rw [if_pos h0, if_pos h0]
    refine (Pass_out l a b ca cb ws ts h0 w hx hy).mono ?_
    rintro e w' ⟨g, cap, rfl, hrow, hb⟩
    exact ⟨_, cap, by rw [h0], intsOfRow hrow, hb⟩
  · rw [if_neg h0, if_neg h0]
    refine (Pass_err l a b ca cb ws ts hle h0 w hx hy).mono ?_
    rintro e w' ⟨rfl, hb⟩
    exact ⟨none, 0, rfl, fun j hj => by simp at hj, hb⟩
end Go.Proofs.Ytlocdkjnefmiaaa
