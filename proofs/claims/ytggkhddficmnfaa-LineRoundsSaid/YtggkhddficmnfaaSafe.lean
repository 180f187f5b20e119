/-
  Contracts of safeTemps and its iterator, of ends, and of Safe.
-/
import Derived.Test.YtggkhddficmnfaaRange
namespace Go.Proofs.Ytggkhddficmnfaa
open Go.RowKit Go.Shelf
set_option linter.unusedVariables false
set_option linter.unusedSimpArgs false
attribute [local go_sem] Oper.semAt_some

theorem grown_of_below {W W' : World} (h : Below W.heap.size W W') : W.grownBy W' none := ⟨h.os, h.tape, h.output, h.size, fun k hk _ => h.block k hk⟩
/-- A call in a walk inside a fence that shuts nothing out. -/
theorem inWide {n : Nat} {P : Program} {f : FuncId} {args : Array Value} {w : World} {R : Ending → World → Prop} (h : Calls P f args w R) : CallsIn Fence.wide n P f args w R := callsIn_wide.2 h
theorem inWideRound {n : Nat} {P : Program} {f : FuncId} {args : Array Value} {w : World} {R : Ending → World → Prop} (l : Nat) (h : Calls P f args w R) : CallsIn (Fence.wide.inRound l) n P f args w R := CallsIn.inRound l (callsIn_wide.2 h)

/-! ### A region that draws its order, within a round: as outside of it, where nothing is deferred -/
theorem opIn_round {F : Fence} {n : Nat} {P : Program} {o : Oper} {a : Act} {w : World} {K : Act → World → Prop} {Q : Exit → Act → World → Prop} {l : Nat} (hro : F.round = none) (ho : ∀ c, o.op ≠ .defer c)
    (h : o.wpIn F n P a w K Q) : o.wpIn (F.inRound l) n P a w K Q := by
  unfold Oper.wpIn at *
  rw [hro, Oper.semAt_none] at h
  rw [Fence.inRound_round, Oper.semAt_some l _ _ ho]
  exact h
def noDefer (ops : Array Oper) : Bool := ops.all fun o => match o.op with | .defer _ => false | _ => true
theorem noDefer_spec {ops : Array Oper} (h : noDefer ops = true) {i : Nat} {o : Oper} (hi : ops[i]? = some o) : ∀ c, o.op ≠ .defer c := by
  intro c e
  obtain ⟨hlt, rfl⟩ := Array.getElem?_eq_some_iff.1 hi
  have := (Array.all_eq_true.1 h) i hlt
  rw [e] at this
  simp at this
theorem anyIn_round {F : Fence} {n : Nat} {P : Program} {md : Region.Mode} {ops : Array Oper} {Q : Exit → Act → World → Prop} {l : Nat} (hro : F.round = none) (hnd : noDefer ops = true) :
    ∀ (k : Nat) (listed : Array Bool) (a : Act) (w : World), wpAnyIn F n P md ops Q k listed a w → wpAnyIn (F.inRound l) n P md ops Q k listed a w := by
  intro k
  induction k with
  | zero => exact fun _ _ _ h => h
  | succ k ih =>
    intro listed a w h
    refine ⟨h.1, fun i hi => ?_⟩
    have h2 := h.2 i hi
    unfold wpOpIn at h2 ⊢
    split
    · rename_i e; rw [e] at h2; exact ih _ _ _ h2
    · rename_i o e
      rw [e] at h2
      simp only at h2
      split
      · rename_i hw
        rw [if_pos hw] at h2
        exact opIn_round hro (noDefer_spec hnd e) (Oper.wpIn_mono (fun a w => ih _ a w) h2)
      · rename_i hw
        rw [if_neg hw] at h2
        exact ⟨h2.1, ih _ _ _ h2.2⟩

/-! ### safeTemps -/
/-- The safe ones of the first k temperatures. -/
def safeTo (l : Ln) (k : Nat) : List Int := ((List.range k).map (fun i : Nat => (-500 : Int) + i)).filter (fun t => decide (l.safe t))
theorem safeTo_succ (l : Ln) (k : Nat) : safeTo l (k + 1) = safeTo l k ++ if l.safe (-500 + k) then [-500 + (k : Int)] else [] := by
  unfold safeTo; rw [List.range_succ, List.map_append, List.filter_append]; simp [List.filter_cons]
theorem safeTo_yes (l : Ln) (k : Nat) (h : l.safe (-500 + k)) : safeTo l (k + 1) = safeTo l k ++ [-500 + (k : Int)] := by rw [safeTo_succ, if_pos h]
theorem safeTo_no (l : Ln) (k : Nat) (h : ¬ l.safe (-500 + k)) : safeTo l (k + 1) = safeTo l k := by rw [safeTo_succ, if_neg h, List.append_nil]
theorem safeTo_len (l : Ln) (k : Nat) : (safeTo l k).length ≤ k := by
  unfold safeTo; exact Nat.le_trans (List.length_filter_le _ _) (by simp)

set_option maxRecDepth 100000 in
set_option maxHeartbeats 2000000 in
theorem safeTemps1_in (ln : Ln) (hl : ln.Ok) (n l Bs n₀ : Nat) (hn : 1 ≤ n) (hb : Bs < n₀) (J Jx : List Int → World → Prop)
    (hY : ∀ pre x W, J pre W → pre.length < 1501 → YieldAt Fence.wide (n - 1) Try.prog l #[.int .i64 x] W fun e W' =>
      (e = .returned (.bool true) ∧ J (pre ++ [x]) W' ∧ Below n₀ W W') ∨ (e = .returned (.bool false) ∧ Jx (pre ++ [x]) W'))
    (W : World) (hJ : AbidesFrom W.heap.size J) (hn₀ : n₀ ≤ W.heap.size) (hA : LnAt Bs ln W) (h0 : J [] W) :
    CallsIn Fence.wide n Try.prog 91 #[.func (.yield l) #[] #[], .pointer (some ⟨Bs, 0, none⟩)] W fun e W' => (∃ v, e = .returned v) ∧
      ((∃ ys, ys = safeTo ln 1501 ∧ J ys W') ∨ (∃ pre, (∃ k, k ≤ 1501 ∧ pre = safeTo ln k) ∧ Jx pre W')) := by
  refine callsIn_of_wp Try.func91 rfl trivial ?_ rfl
  simp only [Try.ntmps91, List.size_toArray, List.length_cons, List.length_nil, Nat.reduceAdd, Nat.reduceSub, Array.replicate_succ, Array.replicate_zero, List.push_toArray, List.append_toArray, List.nil_append, List.cons_append]
  gi_wp2
  gi_loopw [3] (fun t wr => ∃ k : Nat, k ≤ 1501 ∧ t = .int .i64 (-500 + (k : Int)) ∧ J (safeTo ln k) wr ∧ Below n₀ W wr) (fun t _ => (1001 - intOf t).toNat)
  case atStart => exact ⟨0, by omega, rfl, h0, Below.refl _ _⟩
  case round =>
    obtain ⟨k, hk, rfl, hJs, hnx⟩ := hrel
    obtain ⟨a0, a1, a2, a3, a4, a5⟩ := hA
    have c0 := (hnx.cell (p := ⟨Bs, 0, none⟩) hb).trans a0
    have c1 := (hnx.cell (p := ⟨Bs, 1, none⟩) hb).trans a1
    have c2 := (hnx.cell (p := ⟨Bs, 2, none⟩) hb).trans a2
    have c3 := (hnx.cell (p := ⟨Bs, 3, none⟩) hb).trans a3
    have c4 := (hnx.cell (p := ⟨Bs, 4, none⟩) hb).trans a4
    have c5 := (hnx.cell (p := ⟨Bs, 5, none⟩) hb).trans a5
    clear a0 a1 a2 a3 a4 a5
    by_cases hlt : k < 1501
    · have hT : Temp (-500 + (k : Int)) := by unfold Temp; omega
      by_cases hs : ln.safe (-500 + (k : Int))
      · have hr : ln.round (-500 + (k : Int)) = .agg #[.int .i64 0, .bool false] := by unfold Ln.round; rw [show ln.shift (-500 + (k : Int)) = some 0 from hs]
        have HR := hid hr
        clear hr
        have hlen := safeTo_len ln k
        gi_wp2_with (refine ⟨trivial, ?_⟩; gi_at_call 58; refine (inWide (roundAt_any ln hl _ hT _)).mono ?_; rintro e w1 ⟨rfl, hb1⟩; rw [HR.out]; obtain ⟨fn, tmps, assign, body, hy, hR⟩ := hY _ (-500 + (k : Int)) w1 (hJ _ _ _ none hJs (grown_of_below hb1) (fun _ e => by cases e)) (by omega))
        refine hR.mono ?_
        rintro e W3 (⟨rfl, hJ3, hk3⟩ | ⟨rfl, hJx3⟩)
        · gi_wp2
          go_roundw
          case rel => exact ⟨k + 1, by omega, by go_num, by rw [safeTo_yes ln k hs]; exact hJ3, (hnx.trans (hb1.mono (Nat.le_trans hn₀ hnx.size))).trans hk3⟩
          case measure => simp [intOf]; omega
        · gi_wp2
          refine bodyPost_ret (results_none rfl _ _ _) rfl ?_
          exact ⟨⟨_, rfl⟩, .inr ⟨_, ⟨k + 1, by omega, (safeTo_yes ln k hs).symm⟩, hJx3⟩⟩
      · cases hr : ln.shift (-500 + (k : Int)) with
        | none =>
          have hr2 : ln.round (-500 + (k : Int)) = .agg #[.int .i64 0, .bool true] := by unfold Ln.round; rw [hr]
          have HR := hid hr2
          clear hr hr2
          gi_wp2_with (refine ⟨trivial, ?_⟩; gi_at_call 58; refine (inWide (roundAt_any ln hl _ hT _)).mono ?_; rintro e w1 ⟨rfl, hb1⟩; rw [HR.out])
          refine ⟨fun _ _ => trivial, ?_⟩
          gi_wp2
          go_roundw
          case rel => exact ⟨k + 1, by omega, by go_num, by rw [safeTo_no ln k hs]; exact hJ _ _ _ none hJs (grown_of_below hb1) (fun _ e => by cases e), hnx.trans (hb1.mono (Nat.le_trans hn₀ hnx.size))⟩
          case measure => simp [intOf]; omega
        | some s =>
          have hr2 : ln.round (-500 + (k : Int)) = .agg #[.int .i64 s, .bool false] := by unfold Ln.round; rw [hr]
          have hs0 : (s == 0) = false := by simp; intro e; exact hs (by unfold Ln.safe; rw [hr, e])
          have HR := hid hr2
          clear hr hr2
          gi_wp2_with (refine ⟨trivial, ?_⟩; gi_at_call 58; refine (inWide (roundAt_any ln hl _ hT _)).mono ?_; rintro e w1 ⟨rfl, hb1⟩; rw [HR.out])
          refine ⟨fun _ _ => trivial, ?_⟩
          gi_wp2
          go_roundw
          case rel => exact ⟨k + 1, by omega, by go_num, by rw [safeTo_no ln k hs]; exact hJ _ _ _ none hJs (grown_of_below hb1) (fun _ e => by cases e), hnx.trans (hb1.mono (Nat.le_trans hn₀ hnx.size))⟩
          case measure => simp [intOf]; omega
    · obtain rfl : k = 1501 := by omega
      gi_wp2
      go_end0
      exact ⟨⟨_, rfl⟩, .inl ⟨_, rfl, hJs⟩⟩

theorem safeTemps_stops (ln : Ln) (hl : ln.Ok) (n Bs : Nat) (hn : 1 ≤ n) (w : World) (hb : Bs < w.heap.size) (hA : LnAt Bs ln w) :
    SeqStopsK Fence.wide n Try.prog 91 #[.pointer (some ⟨Bs, 0, none⟩)] (fun x : Int => #[Value.int .i64 x]) (Below w.heap.size) (fun ys => ys = safeTo ln 1501) (fun pre => ∃ k, k ≤ 1501 ∧ pre = safeTo ln k) 1501 w := fun l J Jx W hW hJ _ hY h0 => by
  obtain ⟨hc, _⟩ := bcell hW
  refine safeTemps1_in ln hl n l Bs w.heap.size hn hb J Jx hY W hJ hW.size ⟨?_, ?_, ?_, ?_, ?_, ?_⟩ h0 <;> rw [hc _ _ hb]
  · exact hA.1
  · exact hA.2.1
  · exact hA.2.2.1
  · exact hA.2.2.2.1
  · exact hA.2.2.2.2.1
  · exact hA.2.2.2.2.2

set_option maxHeartbeats 400000 in
theorem safeTemps_any (ln : Ln) (w : World) :
    Calls Try.prog 61 #[ln.val] w fun e w' => e = .returned (.func (.func 91) #[] #[.pointer (some ⟨w.heap.size, 0, none⟩)]) ∧
      w' = w.alloc (.cells #[.int .i64 ln.W, .int .i64 ln.B, .int .i64 ln.P, .int .i64 ln.D, .int .i64 ln.S, .int .i64 ln.N] 25) := by
  go_enter Try.func61, Try.ntmps61
  go_wp2
  go_ret
  exact ⟨rfl, rfl⟩

/-! ### ends -/
def endsStep (s : Int × Int × Bool) (v : Int) : Int × Int × Bool := if s.2.2 then (if v < s.1 then v else s.1, if s.2.1 < v then v else s.2.1, true) else (v, v, true)
def endsOf (xs : List Int) : Int × Int × Bool := xs.foldl endsStep (0, 0, false)
theorem endsOf_snoc (xs : List Int) (v : Int) : endsOf (xs ++ [v]) = endsStep (endsOf xs) v := by simp [endsOf]

/-- What ends keeps in a round. -/
abbrev EndsX (s k : Nat) : Prop := (s ≤ k ∧ k < s + 3) ∨ k = s + 4
def EndsK (s : Nat) (A B : World) : Prop := Below s A B ∧ Kept (EndsX s) A B
theorem ends_fin {w W : World} {lo hi a b : Int} {pre : List Int} (x0 : Boxed W w.heap.size 3 (.int .i64 lo)) (x1 : Boxed W (w.heap.size + 1) 3 (.int .i64 hi)) (x2 : Boxed W (w.heap.size + 1 + 1) 4 (.bool true))
    (hB : Below w.heap.size w W) (hs : endsOf pre = (a, b, true)) :
    KeepsOthers W (((W.setCell ⟨w.heap.size, 0, none⟩ (.int .i64 a)).setCell ⟨w.heap.size + 1, 0, none⟩ (.int .i64 b)).drew) ∧
    EndsK w.heap.size W (((W.setCell ⟨w.heap.size, 0, none⟩ (.int .i64 a)).setCell ⟨w.heap.size + 1, 0, none⟩ (.int .i64 b)).drew) ∧
    (Boxed (((W.setCell ⟨w.heap.size, 0, none⟩ (.int .i64 a)).setCell ⟨w.heap.size + 1, 0, none⟩ (.int .i64 b)).drew) w.heap.size 3 (.int .i64 (endsOf pre).1) ∧
     Boxed (((W.setCell ⟨w.heap.size, 0, none⟩ (.int .i64 a)).setCell ⟨w.heap.size + 1, 0, none⟩ (.int .i64 b)).drew) (w.heap.size + 1) 3 (.int .i64 (endsOf pre).2.1) ∧
     Boxed (((W.setCell ⟨w.heap.size, 0, none⟩ (.int .i64 a)).setCell ⟨w.heap.size + 1, 0, none⟩ (.int .i64 b)).drew) (w.heap.size + 1 + 1) 4 (.bool (endsOf pre).2.2)) ∧
    Below w.heap.size w (((W.setCell ⟨w.heap.size, 0, none⟩ (.int .i64 a)).setCell ⟨w.heap.size + 1, 0, none⟩ (.int .i64 b)).drew) := by
  rw [hs]
  have hb : Below w.heap.size W (((W.setCell ⟨w.heap.size, 0, none⟩ (.int .i64 a)).setCell ⟨w.heap.size + 1, 0, none⟩ (.int .i64 b)).drew) :=
    (((Below.refl _ _).setCell (p := ⟨w.heap.size, 0, none⟩) (Nat.le_refl _) _).setCell (p := ⟨w.heap.size + 1, 0, none⟩) (by simp) _).drew
  exact ⟨((KeepsOthers.setCell _ _ _).trans (KeepsOthers.setCell _ _ _)).trans (KeepsOthers.drew _), ⟨hb, ((Kept.set _ _ _ (.inl ⟨by omega, by omega⟩)).trans (Kept.set _ _ _ (.inl ⟨by omega, by omega⟩))).trans (Kept.drew _ _)⟩, ⟨(x0.set _).other (by omega) _, (x1.other (by omega) _).set _, (x2.other (by omega) _).other (by omega) _⟩, hB.trans hb⟩
set_option maxRecDepth 100000 in
set_option maxHeartbeats 2000000 in
theorem ends_in (gf : Nat) (lb : Array Value) (xs : List Int) (Sp : List Int → Prop) (N : Nat) (w : World) (hgf : ∀ args w, (callFunc gf args).run Try.prog w = .ok (.enter gf args) w)
    (hseq : SeqO Fence.wide 9 Try.prog gf lb (fun x : Int => #[Value.int .i64 x]) (fun l A B => Below w.heap.size A B ∧ Kept (fun k => w.heap.size ≤ k ∧ k ≤ l) A B) (fun ys => ys = xs) Sp N w) :
    CallsIn Fence.wide 10 Try.prog 60 #[.func (.func gf) #[] lb] w (Ret w (.tuple #[.int .i64 (endsOf xs).1, .int .i64 (endsOf xs).2.1, .bool (endsOf xs).2.2])) := by
  refine callsIn_of_wp_marks Try.func60 rfl trivial ?_ rfl
  simp only [Try.ntmps60, List.size_toArray, List.length_cons, List.length_nil, Nat.reduceAdd, Nat.reduceSub, Array.replicate_succ, Array.replicate_zero, List.push_toArray, List.append_toArray, List.nil_append, List.cons_append]
  gi_wp2
  have n0 := Boxed.new w 3 (.int .i64 0)
  have n1 := Boxed.new (w.alloc (.cells #[.int .i64 0] 3)) 3 (.int .i64 0)
  have n2 := Boxed.new ((w.alloc (.cells #[.int .i64 0] 3)).alloc (.cells #[.int .i64 0] 3)) 4 (.bool false)
  simp only [World.size_alloc] at n1 n2
  have hB0 : Below w.heap.size w (((w.alloc (.cells #[.int .i64 0] 3)).alloc (.cells #[.int .i64 0] 3)).alloc (.cells #[.bool false] 4)) := b_alloc (b_alloc (b_alloc (Below.refl _ _) _) _) _
  refine range_ownF rfl (by omega) (gf := gf) (lb := lb) rfl trivial hgf hseq (fun A B (h : EndsK w.heap.size A B) => ⟨h.1, h.2.mono (fun k _ hx => by simp only [World.size_alloc]; rcases hx with ⟨a, b⟩ | e <;> omega)⟩) (fun W => ⟨Below.refl _ _, Kept.refl _ _⟩) (fun h k => ⟨h.1.trans k.1, h.2.trans k.2⟩) (fun W r o' h2 => ⟨belowK_b hB0.size W _ _ o' (by omega) h2 rfl rfl, Kept.put W _ o' (.inr (by simp))⟩) hB0 (fun _ => rfl)
    (fun pre W => (Boxed W w.heap.size 3 (.int .i64 (endsOf pre).1) ∧ Boxed W (w.heap.size + 1) 3 (.int .i64 (endsOf pre).2.1) ∧ Boxed W (w.heap.size + 1 + 1) 4 (.bool (endsOf pre).2.2)) ∧ Below w.heap.size w W)
    (fun _ _ _ => False)
    (OwnFrom.and (OwnFrom.and (Own.from (boxed_own _ _ _) _) (OwnFrom.and (Own.from (boxed_own _ _ _) _) (Own.from (boxed_own _ _ _) _))) (ownFrom_below (Nat.le_refl _) hB0.size))
    (fun _ _ _ _ _ hs _ _ => hs)
    ⟨⟨(n0.alloc _).alloc _, n1.alloc _, n2⟩, hB0⟩
    (fun x => { tmps := #[.func (.func gf) #[] lb, undef, .pointer (some ⟨w.heap.size, 0, none⟩), .pointer (some ⟨w.heap.size + 1, 0, none⟩), .pointer (some ⟨w.heap.size + 1 + 1, 0, none⟩), .int .i64 x, .func (.func gf) #[] lb, .int .i64 x, undef, undef, undef, undef, undef, undef, undef, undef, undef, undef, undef, undef, undef], defers := [] }) ?assign ?body ?done ?stop
  case assign =>
    intro l x W K hK
    gi_wp2
    exact hK
  case body =>
    rintro l pre x W ⟨⟨x0, x1, x2⟩, hB⟩ _
    have hmx : Try.prog.follows .mixedOrders = true := by kernel_rfl
    obtain ⟨lo, hi, f, he⟩ : ∃ lo hi f, endsOf pre = (lo, hi, f) := ⟨_, _, _, rfl⟩
    rw [he] at x0 x1 x2
    simp only at x0 x1 x2
    have HE := hid he
    clear he
    have c0 := x0.cell
    have c1 := x1.cell
    have c2 := x2.cell
    have f0 := x0.frozen
    have f1 := x1.frozen
    have f2 := x2.frozen
    cases f with
    | false =>
      have hs : endsOf (pre ++ [x]) = (x, x, true) := by rw [endsOf_snoc, HE.out]; rfl
      have hs := hid hs
      have y0 := ((x0.set (.int .i64 x)).other (B' := w.heap.size + 1) (by omega) (.int .i64 x)).other (B' := w.heap.size + 1 + 1) (by omega) (.bool true)
      have y1 := ((x1.other (B' := w.heap.size) (by omega) (.int .i64 x)).set (.int .i64 x)).other (B' := w.heap.size + 1 + 1) (by omega) (.bool true)
      have y2 := ((x2.other (B' := w.heap.size) (by omega) (.int .i64 x)).other (B' := w.heap.size + 1) (by omega) (.int .i64 x)).set (.bool true)
      have yb : Below w.heap.size W (((W.setCell ⟨w.heap.size, 0, none⟩ (.int .i64 x)).setCell ⟨w.heap.size + 1, 0, none⟩ (.int .i64 x)).setCell ⟨w.heap.size + 1 + 1, 0, none⟩ (.bool true)) :=
        (((Below.refl _ _).setCell (p := ⟨w.heap.size, 0, none⟩) (Nat.le_refl _) (.int .i64 x)).setCell (p := ⟨w.heap.size + 1, 0, none⟩) (by simp) (.int .i64 x)).setCell (p := ⟨w.heap.size + 1 + 1, 0, none⟩) (by simp; omega) (.bool true)
      have yq : Kept (EndsX w.heap.size) W (((W.setCell ⟨w.heap.size, 0, none⟩ (.int .i64 x)).setCell ⟨w.heap.size + 1, 0, none⟩ (.int .i64 x)).setCell ⟨w.heap.size + 1 + 1, 0, none⟩ (.bool true)) :=
        ((Kept.set _ _ _ (.inl ⟨by omega, by omega⟩)).trans (Kept.set _ _ _ (.inl ⟨by omega, by omega⟩))).trans (Kept.set _ _ _ (.inl ⟨by omega, by omega⟩))
      have yk : KeepsOthers W (((W.setCell ⟨w.heap.size, 0, none⟩ (.int .i64 x)).setCell ⟨w.heap.size + 1, 0, none⟩ (.int .i64 x)).setCell ⟨w.heap.size + 1 + 1, 0, none⟩ (.bool true)) :=
        ((KeepsOthers.setCell _ _ _).trans (KeepsOthers.setCell _ _ _)).trans (KeepsOthers.setCell _ _ _)
      gi_wp2
      generalize World.setCell (World.setCell (World.setCell W ⟨w.heap.size, 0, none⟩ (.int .i64 x)) ⟨w.heap.size + 1, 0, none⟩ (.int .i64 x)) ⟨w.heap.size + 1 + 1, 0, none⟩ (.bool true) = W3 at *
      clear c0 c1 c2 f0 f1 f2
      have c0 := y0.cell
      have c1 := y1.cell
      have c2 := y2.cell
      have f0 := y0.frozen
      have f1 := y1.frozen
      have f2 := y2.frozen
      have h1 := ends_fin y0 y1 y2 (hB.trans yb) hs.out
      have hfin := hid (And.intro (yk.trans h1.1) (And.intro (And.intro (yb.trans h1.2.1.1) (yq.trans h1.2.1.2)) h1.2.2))
      clear h1 hs
      refine wpIn_region_any hmx (anyIn_round (F := Fence.wide) rfl (by kernel_rfl) _ _ _ _ ?_)
      change wpAnyIn _ _ _ _ _ _ _ _ _ (World.drew _)
      (refine wpAnyIn_take (i := 1) (v := ?_) rfl rfl (by kernel_rfl) (by kernel_rfl) (by kernel_rfl) (fun _ _ _ h => h) ⟨Or.inl ⟨by rfl, ?_⟩, fun _ => rfl⟩ ?_; rotate_left; · (intro w; go_simp; try with_reducible rfl))
      (refine wpAnyIn_take (i := 4) (v := ?_) rfl rfl (by kernel_rfl) (by kernel_rfl) (by kernel_rfl) (fun _ _ _ h => h) ⟨Or.inl ⟨by rfl, ?_⟩, fun _ => rfl⟩ ?_; rotate_left; · (intro w; go_simp; try with_reducible rfl))
      refine wpAnyIn_ready (rs := [0, 3]) (by kernel_rfl) (by simp) ?_
      refine AllReadyIn.cons rfl (fun K hK => ?_) (AllReadyIn.cons rfl (fun K hK => ?_) AllReadyIn.nil)
      · (go_simp; refine hK _ _ ?_; clear hK K)
        (refine wpAnyIn_take (i := 2) (v := ?_) rfl rfl (by kernel_rfl) (by kernel_rfl) (by kernel_rfl) (fun _ _ _ h => h) ⟨Or.inl ⟨by rfl, ?_⟩, fun _ => rfl⟩ ?_; rotate_left; · (intro w; go_simp; try with_reducible rfl))
        refine wpAnyIn_ready (rs := [3, 6]) (by kernel_rfl) (by simp) ?_
        refine AllReadyIn.cons rfl (fun K hK => ?_) (AllReadyIn.cons rfl (fun K hK => ?_) AllReadyIn.nil)
        · (go_simp; refine hK _ _ ?_; clear hK K)
          (refine wpAnyIn_take (i := 5) (v := ?_) rfl rfl (by kernel_rfl) (by kernel_rfl) (by kernel_rfl) (fun _ _ _ h => h) ⟨Or.inl ⟨by rfl, ?_⟩, fun _ => rfl⟩ ?_; rotate_left; · (intro w; go_simp; try with_reducible rfl))
          (refine wpAnyIn_ready (rs := [6]) (by kernel_rfl) (by simp) (AllReadyIn.cons rfl (fun K hK => ?_) AllReadyIn.nil); go_simp; refine hK _ _ ?_; clear hK K)
          (refine wpAnyIn_ready (rs := [7]) (by kernel_rfl) (by simp) (AllReadyIn.cons rfl (fun K hK => ?_) AllReadyIn.nil); go_simp; refine hK _ _ ?_; clear hK K)
          refine wpAnyIn_done (by kernel_rfl) ?_ _
          exact hfin.out
        · (go_simp; refine hK _ _ ?_; clear hK K)
          (refine wpAnyIn_ready (rs := [3]) (by kernel_rfl) (by simp) (AllReadyIn.cons rfl (fun K hK => ?_) AllReadyIn.nil); go_simp; refine hK _ _ ?_; clear hK K)
          (refine wpAnyIn_take (i := 5) (v := ?_) rfl rfl (by kernel_rfl) (by kernel_rfl) (by kernel_rfl) (fun _ _ _ h => h) ⟨Or.inl ⟨by rfl, ?_⟩, fun _ => rfl⟩ ?_; rotate_left; · (intro w; go_simp; try with_reducible rfl))
          (refine wpAnyIn_ready (rs := [7]) (by kernel_rfl) (by simp) (AllReadyIn.cons rfl (fun K hK => ?_) AllReadyIn.nil); go_simp; refine hK _ _ ?_; clear hK K)
          refine wpAnyIn_done (by kernel_rfl) ?_ _
          exact hfin.out
      · (go_simp; refine hK _ _ ?_; clear hK K)
        (refine wpAnyIn_take (i := 5) (v := ?_) rfl rfl (by kernel_rfl) (by kernel_rfl) (by kernel_rfl) (fun _ _ _ h => h) ⟨Or.inl ⟨by rfl, ?_⟩, fun _ => rfl⟩ ?_; rotate_left; · (intro w; go_simp; try with_reducible rfl))
        (refine wpAnyIn_ready (rs := [0]) (by kernel_rfl) (by simp) (AllReadyIn.cons rfl (fun K hK => ?_) AllReadyIn.nil); go_simp; refine hK _ _ ?_; clear hK K)
        (refine wpAnyIn_take (i := 2) (v := ?_) rfl rfl (by kernel_rfl) (by kernel_rfl) (by kernel_rfl) (fun _ _ _ h => h) ⟨Or.inl ⟨by rfl, ?_⟩, fun _ => rfl⟩ ?_; rotate_left; · (intro w; go_simp; try with_reducible rfl))
        (refine wpAnyIn_ready (rs := [6]) (by kernel_rfl) (by simp) (AllReadyIn.cons rfl (fun K hK => ?_) AllReadyIn.nil); go_simp; refine hK _ _ ?_; clear hK K)
        (refine wpAnyIn_ready (rs := [7]) (by kernel_rfl) (by simp) (AllReadyIn.cons rfl (fun K hK => ?_) AllReadyIn.nil); go_simp; refine hK _ _ ?_; clear hK K)
        refine wpAnyIn_done (by kernel_rfl) ?_ _
        exact hfin.out
    | true =>
      have hs : endsOf (pre ++ [x]) = (if x < lo then x else lo, if hi < x then x else hi, true) := by rw [endsOf_snoc, HE.out]; rfl
      have hfin := hid (ends_fin x0 x1 x2 hB hs)
      clear hs
      gi_wp2
      refine wpIn_region_any hmx (anyIn_round (F := Fence.wide) rfl (by kernel_rfl) _ _ _ _ ?_)
      change wpAnyIn _ _ _ _ _ _ _ _ _ (World.drew _)
      (refine wpAnyIn_take (i := 1) (v := ?_) rfl rfl (by kernel_rfl) (by kernel_rfl) (by kernel_rfl) (fun _ _ _ h => h) ⟨Or.inl ⟨by rfl, ?_⟩, fun _ => rfl⟩ ?_; rotate_left; · (intro w; go_simp; try with_reducible rfl))
      (refine wpAnyIn_take (i := 4) (v := ?_) rfl rfl (by kernel_rfl) (by kernel_rfl) (by kernel_rfl) (fun _ _ _ h => h) ⟨Or.inl ⟨by rfl, ?_⟩, fun _ => rfl⟩ ?_; rotate_left; · (intro w; go_simp; try with_reducible rfl))
      refine wpAnyIn_ready (rs := [0, 3]) (by kernel_rfl) (by simp) ?_
      refine AllReadyIn.cons rfl (fun K hK => ?_) (AllReadyIn.cons rfl (fun K hK => ?_) AllReadyIn.nil)
      · (go_simp; refine hK _ _ ?_; clear hK K)
        (refine wpAnyIn_take (i := 2) (v := ?_) rfl rfl (by kernel_rfl) (by kernel_rfl) (by kernel_rfl) (fun _ _ _ h => h) ⟨Or.inl ⟨by rfl, ?_⟩, fun _ => rfl⟩ ?_; rotate_left; · (intro w; go_simp; try with_reducible rfl))
        refine wpAnyIn_ready (rs := [3, 6]) (by kernel_rfl) (by simp) ?_
        refine AllReadyIn.cons rfl (fun K hK => ?_) (AllReadyIn.cons rfl (fun K hK => ?_) AllReadyIn.nil)
        · (go_simp; refine hK _ _ ?_; clear hK K)
          (refine wpAnyIn_take (i := 5) (v := ?_) rfl rfl (by kernel_rfl) (by kernel_rfl) (by kernel_rfl) (fun _ _ _ h => h) ⟨Or.inl ⟨by rfl, ?_⟩, fun _ => rfl⟩ ?_; rotate_left; · (intro w; go_simp; try with_reducible rfl))
          (refine wpAnyIn_ready (rs := [6]) (by kernel_rfl) (by simp) (AllReadyIn.cons rfl (fun K hK => ?_) AllReadyIn.nil); go_simp; refine hK _ _ ?_; clear hK K)
          (refine wpAnyIn_ready (rs := [7]) (by kernel_rfl) (by simp) (AllReadyIn.cons rfl (fun K hK => ?_) AllReadyIn.nil); go_simp; refine hK _ _ ?_; clear hK K)
          refine wpAnyIn_done (by kernel_rfl) ?_ _
          exact hfin.out
        · (go_simp; refine hK _ _ ?_; clear hK K)
          (refine wpAnyIn_ready (rs := [3]) (by kernel_rfl) (by simp) (AllReadyIn.cons rfl (fun K hK => ?_) AllReadyIn.nil); go_simp; refine hK _ _ ?_; clear hK K)
          (refine wpAnyIn_take (i := 5) (v := ?_) rfl rfl (by kernel_rfl) (by kernel_rfl) (by kernel_rfl) (fun _ _ _ h => h) ⟨Or.inl ⟨by rfl, ?_⟩, fun _ => rfl⟩ ?_; rotate_left; · (intro w; go_simp; try with_reducible rfl))
          (refine wpAnyIn_ready (rs := [7]) (by kernel_rfl) (by simp) (AllReadyIn.cons rfl (fun K hK => ?_) AllReadyIn.nil); go_simp; refine hK _ _ ?_; clear hK K)
          refine wpAnyIn_done (by kernel_rfl) ?_ _
          exact hfin.out
      · (go_simp; refine hK _ _ ?_; clear hK K)
        (refine wpAnyIn_take (i := 5) (v := ?_) rfl rfl (by kernel_rfl) (by kernel_rfl) (by kernel_rfl) (fun _ _ _ h => h) ⟨Or.inl ⟨by rfl, ?_⟩, fun _ => rfl⟩ ?_; rotate_left; · (intro w; go_simp; try with_reducible rfl))
        (refine wpAnyIn_ready (rs := [0]) (by kernel_rfl) (by simp) (AllReadyIn.cons rfl (fun K hK => ?_) AllReadyIn.nil); go_simp; refine hK _ _ ?_; clear hK K)
        (refine wpAnyIn_take (i := 2) (v := ?_) rfl rfl (by kernel_rfl) (by kernel_rfl) (by kernel_rfl) (fun _ _ _ h => h) ⟨Or.inl ⟨by rfl, ?_⟩, fun _ => rfl⟩ ?_; rotate_left; · (intro w; go_simp; try with_reducible rfl))
        (refine wpAnyIn_ready (rs := [6]) (by kernel_rfl) (by simp) (AllReadyIn.cons rfl (fun K hK => ?_) AllReadyIn.nil); go_simp; refine hK _ _ ?_; clear hK K)
        (refine wpAnyIn_ready (rs := [7]) (by kernel_rfl) (by simp) (AllReadyIn.cons rfl (fun K hK => ?_) AllReadyIn.nil); go_simp; refine hK _ _ ?_; clear hK K)
        refine wpAnyIn_done (by kernel_rfl) ?_ _
        exact hfin.out
  case done =>
    rintro D ys W hD rfl ⟨⟨x0, x1, x2⟩, hB⟩ hK
    have c0 := x0.cell
    have c1 := x1.cell
    have c2 := x2.cell
    have f0 := x0.frozen
    have f1 := x1.frozen
    have f2 := x2.frozen
    have hmx : Try.prog.follows .mixedOrders = true := by kernel_rfl
    gi_wp2
    gi_region_o
    gi_wp2
    have hD' : w.heap.size + 3 ≤ D := by simp at hD; omega
    generalize endsOf ys = z at *
    obtain ⟨lo, hi, f⟩ := z
    simp only at x0 x1 x2 c0 c1 c2 ⊢
    have y0 := ((x0.set (.int .i64 lo)).other (B' := w.heap.size + 1) (by omega) (.int .i64 hi)).other (B' := w.heap.size + 1 + 1) (by omega) (.bool f)
    have y1 := ((x1.other (B' := w.heap.size) (by omega) (.int .i64 lo)).set (.int .i64 hi)).other (B' := w.heap.size + 1 + 1) (by omega) (.bool f)
    have y2 := ((x2.other (B' := w.heap.size) (by omega) (.int .i64 lo)).other (B' := w.heap.size + 1) (by omega) (.int .i64 hi)).set (.bool f)
    have yk : KeepsOthers W (((W.setCell ⟨w.heap.size, 0, none⟩ (.int .i64 lo)).setCell ⟨w.heap.size + 1, 0, none⟩ (.int .i64 hi)).setCell ⟨w.heap.size + 1 + 1, 0, none⟩ (.bool f)) :=
      ((KeepsOthers.setCell _ _ _).trans (KeepsOthers.setCell _ _ _)).trans (KeepsOthers.setCell _ _ _)
    have yb := (((hB.setCell (p := ⟨w.heap.size, 0, none⟩) (Nat.le_refl _) (.int .i64 lo)).setCell (p := ⟨w.heap.size + 1, 0, none⟩) (by simp) (.int .i64 hi)).setCell (p := ⟨w.heap.size + 1 + 1, 0, none⟩) (by simp; omega) (.bool f)).drew
    generalize World.setCell (World.setCell (World.setCell W ⟨w.heap.size, 0, none⟩ (.int .i64 lo)) ⟨w.heap.size + 1, 0, none⟩ (.int .i64 hi)) ⟨w.heap.size + 1 + 1, 0, none⟩ (.bool f) = W3 at *
    have hK3 : W3.drew.heap[D]? = some (.deferred (some [])) := yk.same D _ hK rfl
    have g := grownBy_putObj' W3.drew D (.deferred none)
    have z0 := (Boxed.kept (W := W3.drew) y0 g (fun e => by cases e; omega)).cell
    have z1 := (Boxed.kept (W := W3.drew) y1 g (fun e => by cases e; omega)).cell
    have z2 := (Boxed.kept (W := W3.drew) y2 g (fun e => by cases e; omega)).cell
    refine ⟨by simp, .inl ⟨_, _, rfl, run_takeDeferred hK3, ?_⟩⟩
    refine ⟨.tuple #[.int .i64 lo, .int .i64 hi, .bool f], ?_, rfl, yb.trans (belowK_b (w := w) (Nat.le_refl _) _ D _ _ (by omega) hK3 rfl rfl)⟩
    simp [results, Try.f60, go_sem, z0, z1, z2]
  case stop =>
    rintro D c pre W _ _ h _
    exact h.elim

theorem ends_any (gf : Nat) (lb : Array Value) (xs : List Int) (Sp : List Int → Prop) (N : Nat) (w : World) (hgf : ∀ args w, (callFunc gf args).run Try.prog w = .ok (.enter gf args) w)
    (hseq : SeqO Fence.wide 9 Try.prog gf lb (fun x : Int => #[Value.int .i64 x]) (fun l A B => Below w.heap.size A B ∧ Kept (fun k => w.heap.size ≤ k ∧ k ≤ l) A B) (fun ys => ys = xs) Sp N w) :
    Calls Try.prog 60 #[.func (.func gf) #[] lb] w (Ret w (.tuple #[.int .i64 (endsOf xs).1, .int .i64 (endsOf xs).2.1, .bool (endsOf xs).2.2])) :=
  callsIn_wide.1 (ends_in gf lb xs Sp N w hgf hseq)

/-! ### Safe -/
theorem lnAt_new (ln : Ln) (w : World) : LnAt w.heap.size ln (w.alloc (.cells #[.int .i64 ln.W, .int .i64 ln.B, .int .i64 ln.P, .int .i64 ln.D, .int .i64 ln.S, .int .i64 ln.N] 25)) := by
  unfold LnAt; simp [go_sem]
def Ln.ends (l : Ln) : Int × Int × Bool := endsOf (safeTo l 1501)
def Ln.safeV (l : Ln) : Value :=
  if l.Ok then (if l.ends.2.2 then .tuple #[.agg #[.int .i64 l.ends.1, .int .i64 l.ends.2.1], .int .i64 0] else .tuple #[.agg #[.int .i64 0, .int .i64 0], .int .i64 9])
  else .tuple #[.agg #[.int .i64 0, .int .i64 0], .int .i64 7]

theorem safeEnds (ln : Ln) (hl : ln.Ok) (W : World) (Bs : Nat) (hb : Bs < W.heap.size) (hA : LnAt Bs ln W) :
    Calls Try.prog 60 #[.func (.func 91) #[] #[.pointer (some ⟨Bs, 0, none⟩)]] W (Ret W (.tuple #[.int .i64 ln.ends.1, .int .i64 ln.ends.2.1, .bool ln.ends.2.2])) := by
  have hq := safeTemps_stops ln hl 9 Bs (by omega) W hb hA
  unfold Ln.ends
  generalize safeTo ln 1501 = xs at *
  generalize (1501 : Nat) = N at *
  exact ends_any _ _ xs _ N _ (enters_of Try.func91 (by kernel_rfl) rfl) ((SeqO.of_stops hq).keep (fun _ _ _ h => h.1))

set_option maxHeartbeats 1000000 in
theorem Safe_no (l : Ln) (h : ¬ l.Ok) (w : World) : Calls Try.prog 27 #[l.val] w (Ret w (.tuple #[.agg #[.int .i64 0, .int .i64 0], .int .i64 7])) := by
  go_enter Try.func27, Try.ntmps27
  go_wp2_with (go_at_call 25; refine (Check_no l h _).mono ?_; rintro e w1 ⟨rfl, hb1⟩; obtain ⟨hc1, hf1⟩ := bcell hb1)
  refine bodyPost_ret (v := .tuple #[.agg #[.int .i64 0, .int .i64 0], .int .i64 7]) (by simp [results, Try.results27, go_sem, hc1]) rfl ⟨rfl, by (repeat (first | assumption | exact Below.refl _ _ | refine b_alloc ?_ _ | refine Below.drew ?_ | refine b_drewN ?_ _ | refine Below.setCell ?_ (by first | omega | (simp; done) | (simp; omega)) _ | refine b_call (by assumption) ?_))⟩
set_option maxHeartbeats 1000000 in
theorem Safe_ok (l : Ln) (h : l.Ok) (w : World) : Calls Try.prog 27 #[l.val] w (Ret w l.safeV) := by
  have hs := safeEnds l h
  unfold Ln.safeV
  rw [if_pos h]
  generalize l.ends = z at *
  obtain ⟨lo, hi, f⟩ := z
  simp only at hs ⊢
  have HS := hid hs
  clear hs
  cases f with
  | false =>
    go_enter Try.func27, Try.ntmps27
    go_wp2_with (first
      | ((go_at_call 25; refine (Check_ok l h _).mono ?_; rintro e w1 ⟨rfl, hb1⟩; obtain ⟨hc1, hf1⟩ := bcell hb1); have k0 := ((Cel.new _ #[.int .i64 0, .int .i64 0] 31 0 _ rfl).call hb1); have k1 := ((Cel.new _ #[.int .i64 0, .int .i64 0] 31 1 _ rfl).call hb1))
      | (go_at_call 61; refine (safeTemps_any l _).mono ?_; rintro e w2 ⟨rfl, rfl⟩)
      | (go_at_call 60; refine (HS.out _ _ (by simp) (lnAt_new l _)).mono ?_; rintro e w3 ⟨rfl, hb3⟩; obtain ⟨q0, q2⟩ := (k0.alloc _).call hb3; obtain ⟨q1, q3⟩ := (k1.alloc _).call hb3; simp only [World.size_alloc] at q0 q1 q2 q3))
    refine bodyPost_ret (v := .tuple #[.agg #[.int .i64 0, .int .i64 0], .int .i64 9]) (by simp [results, Try.results27, go_sem, q0, q1]) rfl ⟨rfl, by (repeat (first | assumption | exact Below.refl _ _ | refine b_alloc ?_ _ | refine Below.drew ?_ | refine b_drewN ?_ _ | refine Below.setCell ?_ (by first | omega | (simp; done) | (simp; omega)) _ | refine b_call (by assumption) ?_))⟩
  | true =>
    go_enter Try.func27, Try.ntmps27
    go_wp2_with (first
      | ((go_at_call 25; refine (Check_ok l h _).mono ?_; rintro e w1 ⟨rfl, hb1⟩; obtain ⟨hc1, hf1⟩ := bcell hb1); have k0 := ((Cel.new _ #[.int .i64 0, .int .i64 0] 31 0 _ rfl).call hb1); have k1 := ((Cel.new _ #[.int .i64 0, .int .i64 0] 31 1 _ rfl).call hb1))
      | (go_at_call 61; refine (safeTemps_any l _).mono ?_; rintro e w2 ⟨rfl, rfl⟩)
      | (go_at_call 60; refine (HS.out _ _ (by simp) (lnAt_new l _)).mono ?_; rintro e w3 ⟨rfl, hb3⟩; obtain ⟨q0, q2⟩ := (k0.alloc _).call hb3; obtain ⟨q1, q3⟩ := (k1.alloc _).call hb3; simp only [World.size_alloc] at q0 q1 q2 q3))
    refine bodyPost_ret (v := .tuple #[.agg #[.int .i64 lo, .int .i64 hi], .int .i64 0]) (by simp [results, Try.results27, go_sem, q0, q1]) rfl ⟨rfl, by (repeat (first | assumption | exact Below.refl _ _ | refine b_alloc ?_ _ | refine Below.drew ?_ | refine b_drewN ?_ _ | refine Below.setCell ?_ (by first | omega | (simp; done) | (simp; omega)) _ | refine b_call (by assumption) ?_))⟩

theorem Safe_any (l : Ln) (w : World) : Calls Try.prog 27 #[l.val] w (Ret w l.safeV) := by
  by_cases h : l.Ok
  · exact Safe_ok l h w
  · unfold Ln.safeV; rw [if_neg h]; exact Safe_no l h w
end Go.Proofs.Ytggkhddficmnfaa
