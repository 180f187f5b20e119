/-
  steps; Run.
-/
import Derived.Test.YtbfhgcnfhjhgcaaRangeM
import Derived.Test.YtbfhgcnfhjhgcaaRetSt
namespace Go.Proofs.Ytbfhgcnfhjhgcaa
open Go.RowKit Go.Shelf
set_option linter.unusedVariables false
set_option linter.unusedSimpArgs false
attribute [local go_sem] Oper.semAt_some

set_option maxHeartbeats 400000 in
theorem steps_any (b : Nat) (most : Int) (w : World) :
    Calls Try.prog 61 #[.pointer (some ⟨b, 0, none⟩), .int .i64 most] w fun e w' => e = .returned (.func (.func 70) #[] #[.pointer (some ⟨w.heap.size + 1, 0, none⟩), .pointer (some ⟨w.heap.size, 0, none⟩)]) ∧
      w' = (w.alloc (.cells #[.pointer (some ⟨b, 0, none⟩)] 76)).alloc (.cells #[.int .i64 most] 3) := by
  go_enter Try.func61, Try.ntmps61
  go_wp2
  go_ret
  exact ⟨rfl, rfl⟩
theorem grownTr {A B C : World} {r : Option Nat} (h : A.grownBy B r) (k : B.grownBy C r) : A.grownBy C r :=
  ⟨k.os.trans h.os, k.tape.trans h.tape, k.output.trans h.output, Nat.le_trans h.size k.size, fun i hi hne => (k.block i (by have := h.size; omega) hne).trans (h.block i hi hne)⟩
theorem grown8 (W : World) (b : Nat) (v0 v1 v2 v3 v4 v5 v6 v7 : Value) : W.grownBy ((((((((W.setCell ⟨b, 0, none⟩ v0).setCell ⟨b, 1, none⟩ v1).setCell ⟨b, 2, none⟩ v2).setCell ⟨b, 3, none⟩ v3).setCell ⟨b, 4, none⟩ v4).setCell ⟨b, 5, none⟩ v5).setCell ⟨b, 6, none⟩ v6).setCell ⟨b, 7, none⟩ v7) (some b) :=
  grownTr (grownTr (grownTr (grownTr (grownTr (grownTr (grownTr (grown_setc _ _ _ _) (grown_setc _ _ _ _)) (grown_setc _ _ _ _)) (grown_setc _ _ _ _)) (grown_setc _ _ _ _)) (grown_setc _ _ _ _)) (grown_setc _ _ _ _)) (grown_setc _ _ _ _)
theorem StAt.own' {W W' : World} {q : Sl} {s : St} {row : Option Nat} (h : StAt W q s) (hg : W.grownBy W' row) (hr : ∀ r, row = some r → ∃ o : Obj, W.heap[r]? = some o ∧ o.isCells = false) : StAt W' q s := by
  have key : ∀ (a : Option Addr) (xs : List Int), IntsAt W a xs → IntsAt W' a xs := fun a xs hx j hj => by
    obtain ⟨b, off, rfl, hc⟩ := hx j hj
    exact ⟨b, off, rfl, (cell_own hc hg hr).trans hc⟩
  exact ⟨key _ _ h.1, key _ _ h.2.1, key _ _ h.2.2⟩
theorem blk_own {W W' : World} {b : Nat} {t : TypeId} {cs : Array Value} {row : Option Nat} (h : Blk W b t cs) (hg : W.grownBy W' row) (hr : ∀ r, row = some r → ∃ o : Obj, W.heap[r]? = some o ∧ o.isCells = false) : Blk W' b t cs := by
  have hk : W.heap[b]? = some (.cells cs t (0, 0)) := h
  refine (hg.block b (Array.getElem?_eq_some_iff.1 hk).1 (fun e => ?_)).trans h
  obtain ⟨o, ho, hf⟩ := hr b e.symm
  rw [hk] at ho; cases ho; cases hf
set_option maxRecDepth 100000 in
set_option maxHeartbeats 4000000 in
theorem run_in (q : Sl) (s : St) (hs : SOk s) (N : Nat) (hN : N ≤ 5000) (w : World) (hst : ∀ W, Below w.heap.size w W → Calls Try.prog 60 #[stVal q s, .int .i64 N] W (StartRet W s)) :
    CallsIn Fence.wide 10 Try.prog 31 #[stVal q s, .int .i64 N] w (RetS w (St.run N s) 0) := by
  have HST := hid hst
  have B0 := hid (Blk.new w (stCells q s) 37)
  have B1 := hid (Blk.new (w.alloc (.cells (stCells q s) 37)) zeroCells 37)
  clear hst
  refine callsIn_of_wp_marks Try.func31 rfl trivial ?_ rfl
  simp only [Try.ntmps31, List.size_toArray, List.length_cons, List.length_nil, Nat.reduceAdd, Nat.reduceSub, Array.replicate_succ, Array.replicate_zero, List.push_toArray, List.append_toArray, List.nil_append, List.cons_append]
  gi_wp2_with (first
    | (refine ⟨trivial, ?_⟩; gi_at_call 60; refine (inWide (HST.out _ (by (repeat (first | assumption | exact Below.refl _ _ | refine b_alloc ?_ _ | refine Below.drew ?_ | refine b_drewN ?_ _ | refine Below.setCell ?_ (by first | omega | (simp; done) | (simp; omega)) _ | refine b_call (by assumption) ?_))))).mono ?_; rintro e w1 ⟨b, g, q1, rfl, hm1, hb1⟩; have HM1 := hid hm1; have HB1 := hid hb1; clear hm1 hb1)
    | (refine ⟨trivial, ?_⟩; gi_at_call 61; refine (inWide (steps_any _ _ _)).mono ?_; rintro e w2 ⟨rfl, rfl⟩))
  have hb1 := HB1.out
  have hz1 := hb1.size
  have hmw := HM1.out
  have hlb := hmw.blt
  have hlg := hmw.glt
  have hlq : ∀ r, blkOf q1.c = some r → r < w1.heap.size := fun r e => (hmw.prn.lt r (by rw [own_slice]; exact e)).2
  have hbase : ((w.alloc (.cells (stCells q s) 37)).alloc (.cells zeroCells 37)).heap.size + 1 = w.heap.size + 3 := by simp
  have B1' := B1.out
  rw [World.size_alloc] at B1'
  have hB2 := B1'.call hb1
  have hwb : Below w.heap.size w w1 := b_call hb1 (b_alloc (b_alloc (Below.refl _ _) _) _)
  simp only [World.size_alloc] at hz1
  rw [hbase] at hmw
  have cT := (Cel.new (w1.alloc (.cells #[.pointer (some ⟨b, 0, none⟩)] 76)) #[.int .i64 (N : Int)] 3 0 _ rfl).1
  have cM := (Cel.alloc (Cel.new w1 #[.pointer (some ⟨b, 0, none⟩)] 76 0 _ rfl) (.cells #[.int .i64 (N : Int)] 3)).1
  have hb3 := b_alloc (b_alloc (Below.refl w1.heap.size w1) (.cells #[.pointer (some ⟨b, 0, none⟩)] 76)) (.cells #[.int .i64 (N : Int)] 3)
  have hz3 : ((w1.alloc (.cells #[.pointer (some ⟨b, 0, none⟩)] 76)).alloc (.cells #[.int .i64 (N : Int)] 3)).heap.size = w1.heap.size + 2 := by simp
  have hm3 := hmw.below hb3
  have hB3 := hB2.call hb3
  have hw3 := b_call hb3 hwb
  rw [World.size_alloc] at cT
  clear hb1 hwb hB2 hb3
  generalize (w1.alloc (.cells #[.pointer (some ⟨b, 0, none⟩)] 76)).alloc (.cells #[.int .i64 (N : Int)] 3) = W3 at *
  refine range_steps (by omega) N hN (w.heap.size + 3) b g (w1.heap.size + 1) w1.heap.size s hs q1 rfl rfl cT cM (by omega) (by omega) (fun e => by have := hlq _ e; omega) hm3
    (fun pre q W => Blk W (w.heap.size + 1) 37 zeroCells ∧ Below w.heap.size w W) ?own ?moves ⟨hB3, hw3⟩
    (fun x => { tmps := #[stVal q s, Value.int IntKind.i64 N, Value.pointer (some { block := w.heap.size, off := 0 }), undef,
          Value.pointer (some { block := w.heap.size + 1, off := 0 }), Value.int IntKind.i64 0,
          Value.pointer (some { block := b, off := 0 }), Value.int IntKind.i64 0,
          Value.tuple #[Value.pointer (some { block := b, off := 0 }), Value.int IntKind.i64 0], stVal q s, Value.int IntKind.i64 N,
          Value.tuple #[Value.pointer (some { block := b, off := 0 }), Value.int IntKind.i64 0],
          Value.pointer (some { block := b, off := 0 }), Value.int IntKind.i64 0, Value.int IntKind.i64 0,
          Value.bool false, undef, undef, Value.pointer (some { block := b, off := 0 }), Value.int IntKind.i64 N,
          Value.func (Fn.func 70) #[] #[Value.pointer (some { block := w1.heap.size + 1, off := 0 }), Value.pointer (some { block := w1.heap.size, off := 0 })],
          stpV x, undef, undef, undef, undef], defers := [] }) ?assign ?body ?done
  case own =>
    intro q' pre A B row hi hg hr
    exact ⟨blk_own hi.1 hg (fun r e => (hr r e).2), hi.2.grown hg hi.2.size (fun r e => by have := (hr r e).1; have := hw3.size; omega)⟩
  case moves =>
    rintro pre q2 q3 s2 A B ⟨hi, hb⟩ _ hv
    exact ⟨(hv.low.block _ (by omega)).trans hi, hb.trans (hv.low.mono (by omega))⟩
  case assign =>
    intro l x W K hK
    refine wpIn_skip ?_
    simp only [List.zip_toArray, List.zip_cons_cons, List.zip_nil_left, List.zip_nil_right, List.foldl_toArray, List.foldl_cons, List.foldl_nil, List.setIfInBounds_toArray, List.set_cons_zero, List.set_cons_succ, Exit.then]
    exact hK
  case body =>
    rintro l pre q2 s2 x W hi hmac
    gi_wp2
    exact ⟨KeepsFrom.refl _ _, hmac, rfl⟩
  case done =>
    rintro D q2 W hD hmac ⟨hbl, hbw⟩ hK
    have HMC := hid hmac
    have HBL := hid hbl
    have HBW := hid hbw
    generalize St.run N s = s' at *
    obtain ⟨⟨c0, c1, c2, c3⟩, c4, c5, c6, c7⟩ := stBlk hmac.blk
    obtain ⟨⟨d0, d1, d2, d3⟩, d4, d5, d6, d7⟩ := stBlk hbl
    obtain ⟨⟨f0, f1, f2, f3⟩, f4, f5, f6, f7⟩ := stFrz hbl
    clear hmac hbl hbw
    gi_wp2
    have x8 := set8 HBL.out (.slice q2.a s'.store.length q2.ca) (.slice q2.b s'.tape.length q2.cb) (.int .i64 s'.taken) (.slice q2.c s'.printed.length q2.cc) (.int .i64 s'.time) (.int .i64 s'.at_) (.int .i64 s'.done) (.int .i64 s'.why)
    have g8 := grown8 W (w.heap.size + 1) (.slice q2.a s'.store.length q2.ca) (.slice q2.b s'.tape.length q2.cb) (.int .i64 s'.taken) (.slice q2.c s'.printed.length q2.cc) (.int .i64 s'.time) (.int .i64 s'.at_) (.int .i64 s'.done) (.int .i64 s'.why)
    have b8 := below_set8 HBW.out (b := w.heap.size + 1) (by omega) (.slice q2.a s'.store.length q2.ca) (.slice q2.b s'.tape.length q2.cb) (.int .i64 s'.taken) (.slice q2.c s'.printed.length q2.cc) (.int .i64 s'.time) (.int .i64 s'.at_) (.int .i64 s'.done) (.int .i64 s'.why)
    have l1 := HMC.out.own.lt
    have l2 := HMC.out.tap.lt
    have l3 := HMC.out.prn.lt
    rw [own_slice] at l1 l2 l3
    have s8 := HMC.out.at.grown g8 (fun e => by have := l1 _ e; omega) (fun e => by have := l2 _ e; omega) (fun e => by have := l3 _ e; omega)
    have hDl := (Array.getElem?_eq_some_iff.1 hK).1
    have hK8 := (g8.block D hDl (fun e => by injection e with e; omega)).trans hK
    clear c0 c1 c2 c3 c4 c5 c6 c7 d0 d1 d2 d3 d4 d5 d6 d7 f0 f1 f2 f3 f4 f5 f6 f7
    generalize World.setCell (World.setCell (World.setCell (World.setCell (World.setCell (World.setCell (World.setCell (World.setCell W ⟨w.heap.size + 1, 0, none⟩ _) ⟨w.heap.size + 1, 1, none⟩ _) ⟨w.heap.size + 1, 2, none⟩ _) ⟨w.heap.size + 1, 3, none⟩ _) ⟨w.heap.size + 1, 4, none⟩ _) ⟨w.heap.size + 1, 5, none⟩ _) ⟨w.heap.size + 1, 6, none⟩ _) ⟨w.heap.size + 1, 7, none⟩ _ = WF at *
    have gD := grownBy_putObj' WF D (.deferred none)
    have rD := put_row hK8 (by rfl)
    obtain ⟨⟨z0, z1, z2, z3⟩, z4, z5, z6, z7⟩ := stBlk (blk_own x8 gD rD)
    refine ⟨by simp, .inl ⟨_, _, rfl, run_takeDeferred hK8, ?_⟩⟩
    refine ⟨.tuple #[stVal q2 s', .int .i64 0], ?_, q2, rfl, s8.own' gD rD, b8.trans (belowK_b (w := w) (Nat.le_refl _) _ D _ _ (by omega) hK8 rfl rfl)⟩
    simp [results, Try.f31, go_sem, z0, z1, z2, z3, z4, z5, z6, z7]
theorem Run_ok' (q : Sl) (s : St) (hs : SOk s) (N : Nat) (hN : N ≤ 5000) (w : World) (hst : ∀ W, Below w.heap.size w W → Calls Try.prog 60 #[stVal q s, .int .i64 N] W (StartRet W s)) :
    Calls Try.prog 31 #[stVal q s, .int .i64 N] w (RetS w (St.run N s) 0) := callsIn_wide.1 (run_in q s hs N hN w hst)
end Go.Proofs.Ytbfhgcnfhjhgcaa
