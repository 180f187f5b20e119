/-
  Oven and the iterator that it asks.
-/
import Derived.Test.YtlocdkjnefmiaaaClimates
import Derived.Test.YtlocdkjnefmiaaaGCan
namespace Go.Proofs.Ytlocdkjnefmiaaa
open Go.RowKit Go.Shelf
set_option linter.unusedVariables false
set_option linter.unusedSimpArgs false
attribute [local go_sem] Oper.semAt_some

theorem round_in {m : Nat} (l1 : Nat) {l : Nat} {f : FuncId} {tmps : Array Value} {assign body : Code} {w : World} {R : Ending → World → Prop} {P : Program} (h : RoundIn Fence.wide m P l f tmps assign body w R) : RoundIn (Fence.wide.inRound l1) m P l f tmps assign body w R := h
/-- The temperatures of climates. -/
abbrev tempsOf (xs : List (Nat × Cl)) : List Int := xs.map fun x => x.2.1

set_option maxRecDepth 100000 in
set_option maxHeartbeats 2000000 in
theorem oven1_in (o : Ov) (ho : o.Ok) (lo hi : Int) (h : Bool) (M K : Nat) (hlo : -500 ≤ lo) (hhi : hi ≤ 1000) (hM : M ≤ 200) (hK : lo + (K : Int) = hi + 1) (X : Nat → Prop) (W : World) (n l bO bT bH bM : Nat) (hn : 6 ≤ n) (J Jx : List Int → World → Prop)
    (N : Nat) (hN : N = (yieldsTo o (beginL lo h K) (M + 1)).length)
    (hY : ∀ pre x V, J pre V → pre.length < N → YieldAt Fence.wide (n - 1) Try.prog l #[.int .i64 x] V fun e W' =>
      (e = .returned (.bool true) ∧ J (pre ++ [x]) W' ∧ Kept X V W') ∨ (e = .returned (.bool false) ∧ Jx (pre ++ [x]) W' ∧ Rest W.heap.size V W'))
    (hX : ∀ k, X k → k < W.heap.size) (hJ : OwnFrom W.heap.size J) (hJx : OwnFrom W.heap.size Jx) (hg : Given W bO bT bH bM o lo hi h M) (h0 : J [] W) :
    CallsIn Fence.wide n Try.prog 79 #[.func (.yield l) #[] #[], .pointer (some ⟨bO, 0, none⟩), .pointer (some ⟨bT, 0, none⟩), .pointer (some ⟨bH, 0, none⟩), .pointer (some ⟨bM, 0, none⟩)] W fun e W' => (∃ v, e = .returned v) ∧
      ((∃ ys, ys = tempsOf (yieldsTo o (beginL lo h K) (M + 1)) ∧ J ys W') ∨ (∃ pre, True ∧ Jx pre W')) := by
  have hn1 : 1 ≤ n := by omega
  have HY := hid hY
  have HX := hid hX
  have HJ := hid hJ
  have HJX := hid hJx
  have HG := hid hg
  have hb1 := b_alloc (Below.refl W.heap.size W) (.cells #[.func (.yield l) #[] #[]] 65)
  have hg1 := hg.same fun k hk => hb1.block k (by have := hg.lt; rcases hk with rfl | rfl | rfl | rfl <;> omega)
  obtain ⟨⟨⟨a0, a1, a2⟩, a3, a4, a5⟩, g1, g2, g3, g4⟩ := hg1
  have hw1 := Boxed.new W 65 (.func (.yield l) #[] #[])
  have HW1 := hid hw1
  clear hY hX hJ hJx hw1 hb1 hg
  refine callsIn_of_wp_marks Try.func79 rfl trivial ?_ rfl
  simp only [Try.ntmps79, List.size_toArray, List.length_cons, List.length_nil, Nat.reduceAdd, Nat.reduceSub, Array.replicate_succ, Array.replicate_zero, List.push_toArray, List.append_toArray, List.nil_append, List.cons_append]
  gi_wp2_with (refine ⟨trivial, ?_⟩; gi_at_call 80; refine (inWide (climates_any o lo hi h M _)).mono ?_; rintro e w2 ⟨rfl, rfl⟩)
  obtain ⟨w2, hw2⟩ : ∃ w2, given4 (W.alloc (.cells #[.func (.yield l) #[] #[]] 65)) o lo hi h M = w2 := ⟨_, rfl⟩
  have hz2 := given4_size (W.alloc (.cells #[.func (.yield l) #[] #[]] 65)) o lo hi h M
  have hbl2 := given4_below (W.alloc (.cells #[.func (.yield l) #[] #[]] 65)) o lo hi h M
  have hg2 := given4_is (W.alloc (.cells #[.func (.yield l) #[] #[]] 65)) o lo hi h M
  have hx2 := boxed_call HW1.out hbl2
  rw [hw2] at hz2 hbl2 hg2 hx2
  simp only [World.size_alloc] at hg2 hz2
  have hzW : w2.heap.size = W.heap.size + 5 := by omega
  unfold given4 at hw2
  rw [hw2]
  have HX2 := hid hx2
  clear hw2 hz2 hx2 a0 a1 a2 a3 a4 a5 g1 g2 g3 g4
  have hj2 : J [] w2 := HJ.out _ _ _ none h0 ⟨hbl2.os, hbl2.tape, hbl2.output, by omega, fun k hk _ => (hbl2.block k (by simp; omega)).trans (Below.heap_alloc _ _ _ hk)⟩ (by simp)
  refine range_box (n := n) (fun (x : Nat × Cl) B ts => ((ts.setIfInBounds 13 (.int .i64 (x.1 : Int))).setIfInBounds 14 (Cl.val x.2)).setIfInBounds 7 (.pointer (some ⟨B, 0, none⟩))) (fun x => .cells #[.int .i64 x.2.1, .bool x.2.2] 116) (fun _ => rfl) rfl (by omega) (gf := 97)
    (lb := #[.pointer (some ⟨W.heap.size + 1, 0, none⟩), .pointer (some ⟨W.heap.size + 1 + 1, 0, none⟩), .pointer (some ⟨W.heap.size + 1 + 1 + 1, 0, none⟩), .pointer (some ⟨W.heap.size + 1 + 1 + 1 + 1, 0, none⟩)]) rfl trivial (enters_of Try.func97 (by kernel_rfl) rfl)
    (climates_seq o ho lo hi h M K hlo hhi hM hK X (n - 1) _ _ _ _ (by omega) w2 (fun k x => by have := HX.out k x; omega) hg2) (Kp := Kept (fun k => X k ∨ k = w2.heap.size + 1)) (fun _ _ h => h) (fun h k => h.trans k)
    (fun V r o' hr => Kept.put _ _ _ (.inr rfl)) (Below.refl _ _) (fun _ => rfl)
    (fun pre V => (J (tempsOf pre) V ∧ Boxed V W.heap.size 65 (.func (.yield l) #[] #[])) ∧ w2.heap.size ≤ V.heap.size) (fun c pre V => c = .ret ∧ Jx (tempsOf pre) V) ?_ ?_ ⟨⟨hj2, HX2.out⟩, Nat.le_refl _⟩ ?assign ?body ?done ?stop
  · intro pre A B row hh hg hr
    refine ⟨⟨HJ.out _ _ _ row hh.1.1 hg (fun r e => ⟨by have := (hr r e).1; omega, (hr r e).2⟩), hh.1.2.kept hg (fun e => by have := (hr _ e.symm).1; omega)⟩, Nat.le_trans hh.2 hg.size⟩
  · intro c pre A B row hh hg hr
    exact ⟨hh.1, HJX.out _ _ _ row hh.2 hg (fun r e => ⟨by have := (hr r e).1; omega, (hr r e).2⟩)⟩
  case assign =>
    intro l1 pre x V K' hi' hK'
    have HK := hid hK'
    have hzv := hi'.2
    clear hK'
    gi_wp2
    exact HK.out _ _ ((KeepsOthers.alloc _ _).from _) (Kept.alloc _ _ _) ⟨⟨HJ.out _ _ _ none hi'.1.1 (World.grownBy_alloc _ _ none) (by simp), hi'.1.2.alloc _⟩, by simp; omega⟩ hzv (World.alloc_heap_new _ _)
  case body =>
    rintro l1 pre ⟨q, t, b⟩ B V hl1 ⟨⟨i1, i2⟩, i3⟩ hB hobj hlen
    have q0 : V.cell? ⟨B, 0, none⟩ = some (.int .i64 t) := by simp [World.cell?, hobj]
    have q2 := i2.cell
    have I2 := hid i2
    obtain ⟨fn, tmps, assign, body, hy, hR⟩ := yield_depth (n - 1 - 1 - 1) (HY.out (tempsOf pre) t V i1 (by rw [List.length_map, hN]; exact hlen))
    have HR := hid hR
    clear hR hobj i2
    gi_wp2
    refine ⟨fun hd => (by cases hd), RoundIn.mono (F := Fence.wide.inRound l1) (round_in l1 HR.out) ?_⟩
    have e1 : tempsOf (pre ++ [(q, (t, b))]) = tempsOf pre ++ [t] := by simp [tempsOf]
    have HE1 := hid e1
    clear e1
    rintro e V3 (⟨rfl, hJ3, hk3⟩ | ⟨rfl, hJx3, hr3⟩)
    · gi_wp2
      exact ⟨hk3.from (fun k x => by have := HX.out k x; omega), hk3.mono (fun k _ x => .inl x), ⟨by rw [HE1.out]; exact hJ3, hk3.boxed (fun x => by have := HX.out _ x; omega) I2.out⟩, Nat.le_trans i3 hk3.size⟩
    · gi_wp2
      exact ⟨⟨hr3.size, fun k o hk => hr3.same k o (by omega)⟩, rfl, by rw [HE1.out]; exact hJx3⟩
  case done =>
    rintro D ys V hD hys ⟨⟨j1, _⟩, j3⟩ hdef
    have HJ1 := hid j1
    clear j1
    gi_wp2
    refine ⟨by simp, .inl ⟨_, _, rfl, run_takeDeferred hdef, ?_⟩⟩
    refine ⟨_, results_none rfl _ _ _, ⟨_, rfl⟩, ?_⟩
    subst hys
    first | exact .inl (HJ.out.putObj _ HJ1.out (by omega) hdef rfl) | exact .inl ⟨_, rfl, HJ.out.putObj _ HJ1.out (by omega) hdef rfl⟩
  case stop =>
    rintro D c pre V hD hpre ⟨rfl, jx⟩ hdef
    have HJ1 := hid jx
    clear jx
    gi_wp2
    refine ⟨by simp, .inl ⟨_, _, rfl, run_takeDeferred hdef, ?_⟩⟩
    exact ⟨_, results_none rfl _ _ _, ⟨_, rfl⟩, .inr ⟨_, trivial, HJX.out.putObj _ HJ1.out (by omega) hdef rfl⟩⟩

theorem oven1_seq (o : Ov) (ho : o.Ok) (lo hi : Int) (h : Bool) (M K : Nat) (hlo : -500 ≤ lo) (hhi : hi ≤ 1000) (hM : M ≤ 200) (hK : lo + (K : Int) = hi + 1) (n bO bT bH bM : Nat) (hn : 6 ≤ n) (w : World) (hg : Given w bO bT bH bM o lo hi h M) :
    SeqO Fence.wide n Try.prog 79 #[.pointer (some ⟨bO, 0, none⟩), .pointer (some ⟨bT, 0, none⟩), .pointer (some ⟨bH, 0, none⟩), .pointer (some ⟨bM, 0, none⟩)] (fun x : Int => #[Value.int .i64 x]) (fun l A B => Below w.heap.size A B ∧ Kept (fun k => w.heap.size ≤ k ∧ k ≤ l) A B)
      (fun ys => ys = tempsOf (yieldsTo o (beginL lo h K) (M + 1))) (fun _ => True) (yieldsTo o (beginL lo h K) (M + 1)).length w := fun l J Jx W hW h1 h2 hJ hJx hY h0 =>
  oven1_in o ho lo hi h M K hlo hhi hM hK (fun k => w.heap.size ≤ k ∧ k ≤ l) W n l bO bT bH bM hn J Jx _ rfl (fun pre x V hv hl => (hY pre x V hv hl).mono fun e V' hr => hr.imp (fun r => ⟨r.1, r.2.1, r.2.2.2⟩) id)
    (fun k x => by have := x.2; omega) hJ hJx (hg.same fun k hk => hW.block k (by have := hg.lt; rcases hk with rfl | rfl | rfl | rfl <;> omega)) h0

/-- All climates that there can be, with the minutes. -/
def ovAll (o : Ov) (s : Int × Int) (h : Bool) (m : Int) : List (Nat × Cl) := yieldsTo o (beginL s.1 h (s.2 - s.1 + 1).toNat) (m.toNat + 1)
/-- The ends of the temperatures that there can be. -/
def ovEnds (o : Ov) (s : Int × Int) (h : Bool) (m : Int) : Int × Int × Bool := endsOf (tempsOf (ovAll o s h m))
theorem ovErr_ok {o : Ov} {s : Int × Int} {m : Int} (h : ovErr o s m = 0) : o.Ok ∧ (-500 ≤ s.1 ∧ s.2 ≤ 1000 ∧ s.1 ≤ s.2) ∧ 0 ≤ m ∧ m ≤ 200 := by
  unfold ovErr at h
  by_cases h1 : Temp o.lo ∧ Temp o.hi ∧ Change o.warm ∧ Change o.cool
  · rw [if_pos h1] at h
    by_cases h2 : o.lo ≤ o.hi ∧ o.warm.1 ≤ o.warm.2 ∧ o.cool.1 ≤ o.cool.2
    · rw [if_pos h2] at h
      by_cases h3 : spanErr s = 0
      · rw [if_pos h3] at h
        by_cases h4 : 0 ≤ m ∧ m ≤ 200
        · exact ⟨⟨h1, h2⟩, spanErr_ok h3, h4⟩
        · rw [if_neg h4] at h; cases h
      · rw [if_neg h3] at h; exact absurd h h3
    · rw [if_neg h2] at h; cases h
  · rw [if_neg h1] at h; cases h

set_option maxRecDepth 100000 in
set_option maxHeartbeats 1000000 in
theorem Oven_ok (o : Ov) (s : Int × Int) (h : Bool) (m : Int) (he : ovErr o s m = 0) (w : World) :
    Calls Try.prog 36 #[o.val, spanV s, .bool h, .int .i64 m] w (Ret w (.tuple #[.agg #[.int .i64 (ovEnds o s h m).1, .int .i64 (ovEnds o s h m).2.1], .int .i64 0])) := by
  obtain ⟨ho, ⟨hlo, hhi, hle⟩, hm0, hm⟩ := ovErr_ok he
  obtain ⟨lo, hi⟩ := s
  obtain ⟨M, rfl⟩ : ∃ M : Nat, m = (M : Int) := ⟨m.toNat, by omega⟩
  have hoe := fun W => ovenError_any o (lo, hi) (M : Int) W
  rw [he] at hoe
  have HOE := hid hoe
  have hE : ∀ W bO bT bH bM, Given W bO bT bH bM o lo hi h M → Calls Try.prog 60 #[.func (.func 79) #[] #[.pointer (some ⟨bO, 0, none⟩), .pointer (some ⟨bT, 0, none⟩), .pointer (some ⟨bH, 0, none⟩), .pointer (some ⟨bM, 0, none⟩)]] W
      (Ret W (.tuple #[.int .i64 (ovEnds o (lo, hi) h M).1, .int .i64 (ovEnds o (lo, hi) h M).2.1, .bool (ovEnds o (lo, hi) h M).2.2])) := fun W bO bT bH bM hg =>
    ends_any _ _ _ _ _ W (enters_of Try.func79 (by kernel_rfl) rfl) (oven1_seq o ho lo hi h M (hi - lo + 1).toNat hlo hhi (by omega) (by simp only at hle; omega) 9 bO bT bH bM (by omega) W hg)
  generalize ovEnds o (lo, hi) h M = z at *
  obtain ⟨za, zb, zc⟩ := z
  simp only at hE ⊢
  have HE := hid hE
  have hg0 := given4_is w o lo hi h M
  have hb0 := given4_below w o lo hi h M
  have hz0 := given4_size w o lo hi h M
  obtain ⟨w1, hw1⟩ : ∃ w1, given4 w o lo hi h M = w1 := ⟨_, rfl⟩
  rw [hw1] at hg0 hb0 hz0
  have k0 := Cel.new w1 #[.int .i64 0, .int .i64 0] 31 0 _ rfl
  have k1 := Cel.new w1 #[.int .i64 0, .int .i64 0] 31 1 _ rfl
  have hg1 := hg0.same fun k hk => (b_alloc (Below.refl w1.heap.size w1) (.cells #[.int .i64 0, .int .i64 0] 31)).block k (by have := hg0.lt; rcases hk with rfl | rfl | rfl | rfl <;> omega)
  have hb1 := b_alloc hb0 (.cells #[.int .i64 0, .int .i64 0] 31)
  rw [show w1.heap.size = w.heap.size + 1 + 1 + 1 + 1 by omega] at k0 k1
  obtain ⟨⟨⟨a0, a1, a2⟩, a3, a4, a5⟩, g1, g2, g3, g4⟩ := hg1
  rw [← hw1] at a0 a1 a2 a3 a4 a5 g1 g2 g3 g4
  unfold given4 at hw1
  have HW1 := hid hw1
  have K0 := hid k0
  have K1 := hid k1
  have HG0 := hid hg0
  have HB1 := hid hb1
  clear hoe hE hg0 hb0 k0 k1 hb1 he hw1
  go_enter Try.func36, Try.ntmps36
  go_wp2_with (first
    | (go_at_call 78; refine (HOE.out _).mono ?_; rintro e w2 ⟨rfl, hb2⟩; rw [HW1.out] at hb2; have HK0 := hid (K0.out.call hb2); have HK1 := hid (K1.out.call hb2); have HB2 := hid (b_call hb2 HB1.out); have HG2 := hid (HG0.out.same fun k hk => (hb2.block k (by have := HG0.out.lt; rw [World.size_alloc]; rcases hk with rfl | rfl | rfl | rfl <;> omega)).trans ((b_alloc (Below.refl w1.heap.size w1) _).block k (by have := HG0.out.lt; rcases hk with rfl | rfl | rfl | rfl <;> omega))); clear hb2)
    | (go_at_call 60; refine (HE.out _ _ _ _ _ HG2.out).mono ?_; rintro e w3 ⟨rfl, hb3⟩; have HB3 := hid (b_call hb3 HB2.out); obtain ⟨q0, q2⟩ := HK0.out.call hb3; obtain ⟨q1, q3⟩ := HK1.out.call hb3; have q4 := (World.cell?_setCell_other w3 ⟨w.heap.size + 1 + 1 + 1 + 1, 0, none⟩ ⟨w.heap.size + 1 + 1 + 1 + 1, 1, none⟩ (.int .i64 za) (by simp)).trans q1; clear hb3))
  have z0 := (World.cell?_setCell_other (w3.setCell ⟨w.heap.size + 1 + 1 + 1 + 1, 0, none⟩ (.int .i64 za)) ⟨w.heap.size + 1 + 1 + 1 + 1, 1, none⟩ ⟨w.heap.size + 1 + 1 + 1 + 1, 0, none⟩ (.int .i64 zb) (by simp)).trans (World.cell?_setCell_same' w3 ⟨w.heap.size + 1 + 1 + 1 + 1, 0, none⟩ (.int .i64 za) (by rw [q0]; rfl))
  have z1 := World.cell?_setCell_same' (w3.setCell ⟨w.heap.size + 1 + 1 + 1 + 1, 0, none⟩ (.int .i64 za)) ⟨w.heap.size + 1 + 1 + 1 + 1, 1, none⟩ (.int .i64 zb) (by rw [q4]; rfl)
  have hbf := (HB3.out.setCell (p := ⟨w.heap.size + 1 + 1 + 1 + 1, 0, none⟩) (by simp; omega) (.int .i64 za)).setCell (p := ⟨w.heap.size + 1 + 1 + 1 + 1, 1, none⟩) (by simp; omega) (.int .i64 zb)
  generalize World.setCell (World.setCell w3 ⟨w.heap.size + 1 + 1 + 1 + 1, 0, none⟩ (.int .i64 za)) ⟨w.heap.size + 1 + 1 + 1 + 1, 1, none⟩ (.int .i64 zb) = WF at *
  refine ⟨rfl, .tuple #[.agg #[.int .i64 za, .int .i64 zb], .int .i64 0], ?_, rfl, hbf⟩
  simp [results, Try.f36, go_sem, z0, z1]

set_option maxRecDepth 100000 in
set_option maxHeartbeats 1000000 in
theorem Oven_err (o : Ov) (s : Int × Int) (h : Bool) (m : Int) (he : ovErr o s m ≠ 0) (w : World) :
    Calls Try.prog 36 #[o.val, spanV s, .bool h, .int .i64 m] w (Ret w (.tuple #[.agg #[.int .i64 0, .int .i64 0], .int .i64 (ovErr o s m)])) := by
  have hoe := fun W => ovenError_any o s m W
  obtain ⟨lo, hi⟩ := s
  generalize ovErr o (lo, hi) m = er at *
  have HOE := hid hoe
  have hne' : (er != 0) = true := by simpa using he
  have hg0 := given4_is w o lo hi h m
  have hb0 := given4_below w o lo hi h m
  have hz0 := given4_size w o lo hi h m
  obtain ⟨w1, hw1⟩ : ∃ w1, given4 w o lo hi h m = w1 := ⟨_, rfl⟩
  rw [hw1] at hg0 hb0 hz0
  have k0 := Cel.new w1 #[.int .i64 0, .int .i64 0] 31 0 _ rfl
  have k1 := Cel.new w1 #[.int .i64 0, .int .i64 0] 31 1 _ rfl
  have hg1 := hg0.same fun k hk => (b_alloc (Below.refl w1.heap.size w1) (.cells #[.int .i64 0, .int .i64 0] 31)).block k (by have := hg0.lt; rcases hk with rfl | rfl | rfl | rfl <;> omega)
  have hb1 := b_alloc hb0 (.cells #[.int .i64 0, .int .i64 0] 31)
  rw [show w1.heap.size = w.heap.size + 1 + 1 + 1 + 1 by omega] at k0 k1
  obtain ⟨⟨⟨a0, a1, a2⟩, a3, a4, a5⟩, g1, g2, g3, g4⟩ := hg1
  rw [← hw1] at a0 a1 a2 a3 a4 a5 g1 g2 g3 g4
  unfold given4 at hw1
  have HW1 := hid hw1
  have K0 := hid k0
  have K1 := hid k1
  have HB1 := hid hb1
  clear hoe hg0 hb0 k0 k1 hb1 he hw1
  go_enter Try.func36, Try.ntmps36
  go_wp2_with (go_at_call 78; refine (HOE.out _).mono ?_; rintro e w3 ⟨rfl, hb2⟩; rw [HW1.out] at hb2; have HB3 := hid (b_call hb2 HB1.out); obtain ⟨q0, q2⟩ := K0.out.call hb2; obtain ⟨q1, q3⟩ := K1.out.call hb2; have q4 := (World.cell?_setCell_other w3 ⟨w.heap.size + 1 + 1 + 1 + 1, 0, none⟩ ⟨w.heap.size + 1 + 1 + 1 + 1, 1, none⟩ (.int .i64 0) (by simp)).trans q1; clear hb2)
  have z0 := (World.cell?_setCell_other (w3.setCell ⟨w.heap.size + 1 + 1 + 1 + 1, 0, none⟩ (.int .i64 0)) ⟨w.heap.size + 1 + 1 + 1 + 1, 1, none⟩ ⟨w.heap.size + 1 + 1 + 1 + 1, 0, none⟩ (.int .i64 0) (by simp)).trans (World.cell?_setCell_same' w3 ⟨w.heap.size + 1 + 1 + 1 + 1, 0, none⟩ (.int .i64 0) (by rw [q0]; rfl))
  have z1 := World.cell?_setCell_same' (w3.setCell ⟨w.heap.size + 1 + 1 + 1 + 1, 0, none⟩ (.int .i64 0)) ⟨w.heap.size + 1 + 1 + 1 + 1, 1, none⟩ (.int .i64 0) (by rw [q4]; rfl)
  have hbf := (HB3.out.setCell (p := ⟨w.heap.size + 1 + 1 + 1 + 1, 0, none⟩) (by simp; omega) (.int .i64 0)).setCell (p := ⟨w.heap.size + 1 + 1 + 1 + 1, 1, none⟩) (by simp; omega) (.int .i64 0)
  generalize World.setCell (World.setCell w3 ⟨w.heap.size + 1 + 1 + 1 + 1, 0, none⟩ (.int .i64 0)) ⟨w.heap.size + 1 + 1 + 1 + 1, 1, none⟩ (.int .i64 0) = WF at *
  refine ⟨rfl, .tuple #[.agg #[.int .i64 0, .int .i64 0], .int .i64 er], ?_, rfl, hbf⟩
  simp [results, Try.f36, go_sem, z0, z1]
end Go.Proofs.Ytlocdkjnefmiaaa
