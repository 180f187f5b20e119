/-
  following, When; and the reference's.
-/
import Derived.Test.YtbfhgcnfhjhgcaaTimes
namespace Go.Proofs.Ytbfhgcnfhjhgcaa
open Go.RowKit Go.Shelf
set_option linter.unusedVariables false
set_option linter.unusedSimpArgs false
attribute [local go_sem] Oper.semAt_some

theorem OdAt.same {b : Nat} {o : Od} {W W' : World} (h : OdAt b o W) (e : W'.heap[b]? = W.heap[b]?) : OdAt b o W' :=
  ⟨(World.cell?_of_block (a := ⟨b, 0, none⟩) e).trans h.1, (World.cell?_of_block (a := ⟨b, 1, none⟩) e).trans h.2.1, (World.cell?_of_block (a := ⟨b, 2, none⟩) e).trans h.2.2.1, (World.cell?_of_block (a := ⟨b, 3, none⟩) e).trans h.2.2.2⟩
theorem comings_seq (o : Od) (ho : o.Ok) (t : Int) (ht : 0 ≤ t ∧ t ≤ 2000000000) (neg : Bool) (Y : Nat → Prop) (n bT bO bN : Nat) (hn : 1 ≤ n) (w : World) (hY : ∀ k, Y k → k < w.heap.size)
    (c1 : w.cell? ⟨bT, 0, none⟩ = some (.int .i64 t)) (hO : OdAt bO o w) (c3 : w.cell? ⟨bN, 0, none⟩ = some (.bool neg)) :
    SeqO Fence.wide n Try.prog 76 #[.pointer (some ⟨bT, 0, none⟩), .pointer (some ⟨bO, 0, none⟩), .pointer (some ⟨bN, 0, none⟩)] comeEnc (fun l => Kept (fun k => Y k ∨ (w.heap.size ≤ k ∧ k ≤ l))) (fun ys => ys = comeTo (waitsOf o neg) t (waitsOf o neg).length)
      (fun pre => ∃ k, k ≤ (waitsOf o neg).length ∧ pre = comeTo (waitsOf o neg) t k) (waitsOf o neg).length w := fun l J Jx W hW hl1 hl2 hJ hJx hYy h0 =>
  comings1_in o ho t ht neg (fun k => Y k ∨ (w.heap.size ≤ k ∧ k ≤ l)) W n l bT bO bN hn J Jx (fun pre x V hv hl => (hYy pre x V hv hl).mono fun e V' hr => hr.imp id (fun r => ⟨r.1, r.2.1⟩)) (fun k x => by
    rcases x with x | x
    · have := hY k x; have := hW.size; omega
    · omega) hJ (cell_later hW c1) (odAt_call hO hW) (cell_later hW c3) h0
set_option maxHeartbeats 400000 in
theorem comings_any (o : Od) (t : Int) (neg : Bool) (w : World) :
    Calls Try.prog 66 #[o.val, .int .i64 t, .bool neg] w fun e w' => e = .returned (.func (.func 76) #[] #[.pointer (some ⟨w.heap.size + 1, 0, none⟩), .pointer (some ⟨w.heap.size, 0, none⟩), .pointer (some ⟨w.heap.size + 1 + 1, 0, none⟩)]) ∧
      w' = ((w.alloc (.cells #[.int .i64 o.op, .int .i64 o.fr, .int .i64 o.to, .int .i64 o.nx] 23)).alloc (.cells #[.int .i64 t] 3)).alloc (.cells #[.bool neg] 4) := by
  go_enter Try.func66, Try.ntmps66
  go_wp2
  go_ret
  exact ⟨rfl, rfl⟩

def lastOf (xs : List (Int × Int)) : Int × Int := xs.getLast?.getD (0, 0)
theorem lastOf_snoc (xs : List (Int × Int)) (x : Int × Int) : lastOf (xs ++ [x]) = x := by simp [lastOf]
/-- The address of the order after another one, and when it is taken. -/
def folOf (o : Od) (t : Int) (neg : Bool) : Int × Int := lastOf (comeTo (waitsOf o neg) t (waitsOf o neg).length)

set_option maxRecDepth 100000 in
set_option maxHeartbeats 4000000 in
theorem following_in (o : Od) (ho : o.Ok) (t : Int) (ht : 0 ≤ t ∧ t ≤ 2000000000) (neg : Bool) (w : World) :
    CallsIn Fence.wide 10 Try.prog 49 #[o.val, .int .i64 t, .bool neg] w (Ret w (.tuple #[.int .i64 (folOf o t neg).1, .int .i64 (folOf o t neg).2])) := by
  have HO := hid (odAt_new w o)
  refine callsIn_of_wp_marks Try.func49 rfl trivial ?_ rfl
  simp only [Try.ntmps49, List.size_toArray, List.length_cons, List.length_nil, Nat.reduceAdd, Nat.reduceSub, Array.replicate_succ, Array.replicate_zero, List.push_toArray, List.append_toArray, List.nil_append, List.cons_append]
  gi_wp2_with (refine ⟨trivial, ?_⟩; gi_at_call 66; refine (inWide (comings_any o t neg _)).mono ?_; rintro e w1 ⟨rfl, rfl⟩)
  have n0 := ((((Boxed.new (w.alloc (.cells #[.int .i64 o.op, .int .i64 o.fr, .int .i64 o.to, .int .i64 o.nx] 23)) 3 (.int .i64 0)).alloc (.cells #[.int .i64 0] 3)).alloc (.cells #[.int .i64 o.op, .int .i64 o.fr, .int .i64 o.to, .int .i64 o.nx] 23)).alloc (.cells #[.int .i64 t] 3)).alloc (.cells #[.bool neg] 4)
  have n1 := (((Boxed.new ((w.alloc (.cells #[.int .i64 o.op, .int .i64 o.fr, .int .i64 o.to, .int .i64 o.nx] 23)).alloc (.cells #[.int .i64 0] 3)) 3 (.int .i64 0)).alloc (.cells #[.int .i64 o.op, .int .i64 o.fr, .int .i64 o.to, .int .i64 o.nx] 23)).alloc (.cells #[.int .i64 t] 3)).alloc (.cells #[.bool neg] 4)
  have hO6 := odAt_call (odAt_call (odAt_new (((w.alloc (.cells #[.int .i64 o.op, .int .i64 o.fr, .int .i64 o.to, .int .i64 o.nx] 23)).alloc (.cells #[.int .i64 0] 3)).alloc (.cells #[.int .i64 0] 3)) o) (b_alloc (Below.refl _ _) (.cells #[.int .i64 t] 3))) (b_alloc (Below.refl _ _) (.cells #[.bool neg] 4))
  have c1 := (Cel.alloc (Cel.new ((((w.alloc (.cells #[.int .i64 o.op, .int .i64 o.fr, .int .i64 o.to, .int .i64 o.nx] 23)).alloc (.cells #[.int .i64 0] 3)).alloc (.cells #[.int .i64 0] 3)).alloc (.cells #[.int .i64 o.op, .int .i64 o.fr, .int .i64 o.to, .int .i64 o.nx] 23)) #[.int .i64 t] 3 0 (.int .i64 t) rfl) (.cells #[.bool neg] 4)).1
  have c3 := (Cel.new (((((w.alloc (.cells #[.int .i64 o.op, .int .i64 o.fr, .int .i64 o.to, .int .i64 o.nx] 23)).alloc (.cells #[.int .i64 0] 3)).alloc (.cells #[.int .i64 0] 3)).alloc (.cells #[.int .i64 o.op, .int .i64 o.fr, .int .i64 o.to, .int .i64 o.nx] 23)).alloc (.cells #[.int .i64 t] 3)) #[.bool neg] 4 0 (.bool neg) rfl).1
  have hB6 : Below w.heap.size w ((((((w.alloc (.cells #[.int .i64 o.op, .int .i64 o.fr, .int .i64 o.to, .int .i64 o.nx] 23)).alloc (.cells #[.int .i64 0] 3)).alloc (.cells #[.int .i64 0] 3)).alloc (.cells #[.int .i64 o.op, .int .i64 o.fr, .int .i64 o.to, .int .i64 o.nx] 23)).alloc (.cells #[.int .i64 t] 3)).alloc (.cells #[.bool neg] 4)) := b_alloc (b_alloc (b_alloc (b_alloc (b_alloc (b_alloc (Below.refl _ _) _) _) _) _) _) _
  have hz6 : ((((((w.alloc (.cells #[.int .i64 o.op, .int .i64 o.fr, .int .i64 o.to, .int .i64 o.nx] 23)).alloc (.cells #[.int .i64 0] 3)).alloc (.cells #[.int .i64 0] 3)).alloc (.cells #[.int .i64 o.op, .int .i64 o.fr, .int .i64 o.to, .int .i64 o.nx] 23)).alloc (.cells #[.int .i64 t] 3)).alloc (.cells #[.bool neg] 4)).heap.size = w.heap.size + 6 := by simp
  simp only [World.size_alloc] at n0 n1 hO6 c1 c3
  generalize ((((((w.alloc (.cells #[.int .i64 o.op, .int .i64 o.fr, .int .i64 o.to, .int .i64 o.nx] 23)).alloc (.cells #[.int .i64 0] 3)).alloc (.cells #[.int .i64 0] 3)).alloc (.cells #[.int .i64 o.op, .int .i64 o.fr, .int .i64 o.to, .int .i64 o.nx] 23)).alloc (.cells #[.int .i64 t] 3)).alloc (.cells #[.bool neg] 4)) = W6 at *
  have hseq := comings_seq o ho t ht neg (fun k => k = w.heap.size + 1 ∨ k = w.heap.size + 1 + 1) 9 _ _ _ (by omega) W6 (fun k x => by omega) c1 hO6 c3
  have HF := hid (show folOf o t neg = lastOf (comeTo (waitsOf o neg) t (waitsOf o neg).length) from rfl)
  refine range_ownF rfl (by omega) (gf := 76) (lb := #[.pointer (some ⟨w.heap.size + 1 + 1 + 1 + 1, 0, none⟩), .pointer (some ⟨w.heap.size + 1 + 1 + 1, 0, none⟩), .pointer (some ⟨w.heap.size + 1 + 1 + 1 + 1 + 1, 0, none⟩)]) rfl trivial (enters_of Try.func76 (by kernel_rfl) rfl) hseq
    (fun A B (h : Kept (fun k => k = w.heap.size + 1 ∨ k = w.heap.size + 1 + 1 ∨ k = W6.heap.size + 1) A B) => h.mono (fun k _ x => by omega)) (fun W => Kept.refl _ _) (fun h k => h.trans k) (fun W r o' h2 => Kept.put W _ o' (.inr (.inr rfl))) (Below.refl _ _) (fun _ => rfl)
    (fun pre W => (Boxed W (w.heap.size + 1) 3 (.int .i64 (lastOf pre).1) ∧ Boxed W (w.heap.size + 1 + 1) 3 (.int .i64 (lastOf pre).2)) ∧ Below w.heap.size w W)
    (fun _ _ _ => False)
    (OwnFrom.and (OwnFrom.and (Own.from (boxed_own _ _ _) _) (Own.from (boxed_own _ _ _) _)) (ownFrom_below (by omega) hB6.size))
    (fun _ _ _ _ _ hs _ _ => hs)
    ⟨⟨n0, n1⟩, hB6⟩
    (fun x => { tmps := #[o.val, .int .i64 t, .bool neg, .pointer (some ⟨w.heap.size, 0, none⟩), undef, undef, .pointer (some ⟨w.heap.size + 1, 0, none⟩), .pointer (some ⟨w.heap.size + 1 + 1, 0, none⟩), .int .i64 x.1, .int .i64 x.2, o.val, .int .i64 t, .bool neg,
      .func (.func 76) #[] #[.pointer (some ⟨w.heap.size + 1 + 1 + 1 + 1, 0, none⟩), .pointer (some ⟨w.heap.size + 1 + 1 + 1, 0, none⟩), .pointer (some ⟨w.heap.size + 1 + 1 + 1 + 1 + 1, 0, none⟩)], .int .i64 x.1, .int .i64 x.2, undef, undef, undef, undef], defers := [] }) ?assign ?body ?done ?stop
  case assign =>
    intro l x W K hK
    gi_wp2
    exact hK
  case body =>
    rintro l pre x W ⟨⟨x0, x1⟩, hB⟩ _
    have c0 := x0.cell
    have c1 := x1.cell
    have f0 := x0.frozen
    have f1 := x1.frozen
    have hls := hid (lastOf_snoc pre x)
    have y0 := (x0.set (.int .i64 x.1)).other (B' := w.heap.size + 1 + 1) (by omega) (.int .i64 x.2)
    have y1 := (x1.other (B' := w.heap.size + 1) (by omega) (.int .i64 x.1)).set (.int .i64 x.2)
    have yb := (hB.setCell (p := ⟨w.heap.size + 1, 0, none⟩) (by simp) (.int .i64 x.1)).setCell (p := ⟨w.heap.size + 1 + 1, 0, none⟩) (by simp only; omega) (.int .i64 x.2)
    have yq : Kept (fun k => k = w.heap.size + 1 ∨ k = w.heap.size + 1 + 1 ∨ k = W6.heap.size + 1) W ((W.setCell ⟨w.heap.size + 1, 0, none⟩ (.int .i64 x.1)).setCell ⟨w.heap.size + 1 + 1, 0, none⟩ (.int .i64 x.2)) := (Kept.set _ _ _ (.inl rfl)).trans (Kept.set _ _ _ (.inr (.inl rfl)))
    have yk : KeepsOthers W ((W.setCell ⟨w.heap.size + 1, 0, none⟩ (.int .i64 x.1)).setCell ⟨w.heap.size + 1 + 1, 0, none⟩ (.int .i64 x.2)) := (KeepsOthers.setCell _ _ _).trans (KeepsOthers.setCell _ _ _)
    gi_wp2
    exact ⟨yk, yq, ⟨by rw [hls.out]; exact y0, by rw [hls.out]; exact y1⟩, yb⟩
  case done =>
    rintro D ys W hD rfl ⟨⟨x0, x1⟩, hB⟩ hK
    rw [← HF.out] at x0 x1
    have c0 := x0.cell
    have c1 := x1.cell
    have f0 := x0.frozen
    have f1 := x1.frozen
    have hmx : Try.prog.follows .mixedOrders = true := by kernel_rfl
    generalize folOf o t neg = z at *
    obtain ⟨za, zc⟩ := z
    simp only at x0 x1 c0 c1 ⊢
    gi_wp2
    gi_region_o
    gi_wp2
    have hD' : w.heap.size + 6 ≤ D := by omega
    have y0 := (x0.set (.int .i64 za)).other (B' := w.heap.size + 1 + 1) (by omega) (.int .i64 zc)
    have y1 := (x1.other (B' := w.heap.size + 1) (by omega) (.int .i64 za)).set (.int .i64 zc)
    have yk : KeepsOthers W ((W.setCell ⟨w.heap.size + 1, 0, none⟩ (.int .i64 za)).setCell ⟨w.heap.size + 1 + 1, 0, none⟩ (.int .i64 zc)) := (KeepsOthers.setCell _ _ _).trans (KeepsOthers.setCell _ _ _)
    have yb := ((hB.setCell (p := ⟨w.heap.size + 1, 0, none⟩) (by simp) (.int .i64 za)).setCell (p := ⟨w.heap.size + 1 + 1, 0, none⟩) (by simp only; omega) (.int .i64 zc)).drew
    generalize World.setCell (World.setCell W ⟨w.heap.size + 1, 0, none⟩ (.int .i64 za)) ⟨w.heap.size + 1 + 1, 0, none⟩ (.int .i64 zc) = W3 at *
    have hK3 : W3.drew.heap[D]? = some (.deferred (some [])) := yk.same D _ hK rfl
    have g := grownBy_putObj' W3.drew D (.deferred none)
    have z0 := (Boxed.kept (W := W3.drew) y0 g (fun e => by cases e; omega)).cell
    have z1 := (Boxed.kept (W := W3.drew) y1 g (fun e => by cases e; omega)).cell
    refine ⟨by simp, .inl ⟨_, _, rfl, run_takeDeferred hK3, ?_⟩⟩
    refine ⟨.tuple #[.int .i64 za, .int .i64 zc], ?_, rfl, yb.trans (belowK_b (w := w) (Nat.le_refl _) _ D _ _ (by omega) hK3 rfl rfl)⟩
    simp [results, Try.f49, go_sem, z0, z1]
  case stop =>
    rintro D c pre W _ _ h _
    exact h.elim
theorem following_any (o : Od) (ho : o.Ok) (t : Int) (ht : 0 ≤ t ∧ t ≤ 2000000000) (neg : Bool) (w : World) :
    Calls Try.prog 49 #[o.val, .int .i64 t, .bool neg] w (Ret w (.tuple #[.int .i64 (folOf o t neg).1, .int .i64 (folOf o t neg).2])) := callsIn_wide.1 (following_in o ho t ht neg w)

/-! ### When -/
abbrev val3 (a b e : Int) : Value := .tuple #[.int .i64 a, .int .i64 b, .int .i64 e]
def whenErr (o : Od) (t : Int) : Int := if o.Ok ∧ Tm t then (if o.op = 0 then 2 else 0) else 7
def whenOf (o : Od) (t : Int) (neg : Bool) : Int × Int := if whenErr o t = 0 then folOf o t neg else (0, 0)
set_option maxRecDepth 100000 in
set_option maxHeartbeats 2000000 in
theorem When_any (o : Od) (t : Int) (neg : Bool) (w : World) : Calls Try.prog 24 #[o.val, .int .i64 t, .bool neg] w (Ret w (val3 (whenOf o t neg).1 (whenOf o t neg).2 (whenErr o t))) := by
  have HO := hid (odAt_new w o)
  have hi := fun W => isOrder_any o W
  have ht := fun W => isTime_any t W
  by_cases h : o.Ok
  · rw [decide_eq_true h] at hi
    by_cases h2 : Tm t
    · rw [decide_eq_true h2] at ht
      by_cases h0 : o.op = 0
      · have e : whenErr o t = 2 := by unfold whenErr; rw [if_pos ⟨h, h2⟩, if_pos h0]
        have e2 : whenOf o t neg = (0, 0) := by unfold whenOf; rw [e]; rfl
        rw [e, e2]
        have HI := hid hi
        have HT := hid ht
        have H0 := hid h0
        clear hi ht e e2 h h0
        go_enter Try.func24, Try.ntmps24
        go_wp2_with (first
          | (go_at_call 40; refine (HI.out _).mono ?_; rintro e w1 ⟨rfl, hb1⟩; have HB1 := hid (show Below w.heap.size w w1 from b_call hb1 (by (repeat (first | assumption | exact Below.refl _ _ | refine b_alloc ?_ _ | refine Below.drew ?_ | refine b_drewN ?_ _ | refine Below.setCell ?_ (by first | omega | (simp; done) | (simp; omega)) _ | refine b_call (by assumption) ?_)))); have HO1 := hid (odAt_call HO.out hb1); clear hb1)
          | (go_at_call 48; refine (HT.out _).mono ?_; rintro e w2 ⟨rfl, hb2⟩; have HB2 := hid (b_call hb2 HB1.out); obtain ⟨d0, d1, d2, d3⟩ := odAt_call HO1.out hb2; rw [H0.out] at d0; clear hb2))
        go_ret3
        exact ⟨rfl, HB2.out⟩
      · have e : whenErr o t = 0 := by unfold whenErr; rw [if_pos ⟨h, h2⟩, if_neg h0]
        have e2 : whenOf o t neg = folOf o t neg := by unfold whenOf; rw [if_pos e]
        rw [e, e2]
        have HI := hid hi
        have HT := hid ht
        have HFO := hid (fun W => following_any o h t (by omega) neg W)
        have h0' : (o.op == 0) = false := by simpa using h0
        generalize folOf o t neg = z at *
        obtain ⟨za, zc⟩ := z
        clear hi ht e e2 h h0
        go_enter Try.func24, Try.ntmps24
        go_wp2_with (first
          | (go_at_call 40; refine (HI.out _).mono ?_; rintro e w1 ⟨rfl, hb1⟩; have HB1 := hid (show Below w.heap.size w w1 from b_call hb1 (by (repeat (first | assumption | exact Below.refl _ _ | refine b_alloc ?_ _ | refine Below.drew ?_ | refine b_drewN ?_ _ | refine Below.setCell ?_ (by first | omega | (simp; done) | (simp; omega)) _ | refine b_call (by assumption) ?_)))); have HO1 := hid (odAt_call HO.out hb1); clear hb1)
          | (go_at_call 48; refine (HT.out _).mono ?_; rintro e w2 ⟨rfl, hb2⟩; have HB2 := hid (b_call hb2 HB1.out); obtain ⟨d0, d1, d2, d3⟩ := odAt_call HO1.out hb2; clear hb2)
          | (go_at_call 49; refine (HFO.out _).mono ?_; rintro e w3 ⟨rfl, hb3⟩; have HB3 := hid (b_call hb3 HB2.out); clear hb3))
        go_ret3
        exact ⟨rfl, HB3.out⟩
    · rw [decide_eq_false h2] at ht
      have e : whenErr o t = 7 := by unfold whenErr; rw [if_neg (fun g => h2 g.2)]
      have e2 : whenOf o t neg = (0, 0) := by unfold whenOf; rw [e]; rfl
      rw [e, e2]
      have HI := hid hi
      have HT := hid ht
      clear hi ht e e2 h h2
      go_enter Try.func24, Try.ntmps24
      go_wp2_with (first
        | (go_at_call 40; refine (HI.out _).mono ?_; rintro e w1 ⟨rfl, hb1⟩; have HB1 := hid (show Below w.heap.size w w1 from b_call hb1 (by (repeat (first | assumption | exact Below.refl _ _ | refine b_alloc ?_ _ | refine Below.drew ?_ | refine b_drewN ?_ _ | refine Below.setCell ?_ (by first | omega | (simp; done) | (simp; omega)) _ | refine b_call (by assumption) ?_)))); clear hb1)
        | (go_at_call 48; refine (HT.out _).mono ?_; rintro e w2 ⟨rfl, hb2⟩; have HB2 := hid (b_call hb2 HB1.out); clear hb2))
      go_ret3
      exact ⟨rfl, HB2.out⟩
  · rw [decide_eq_false h] at hi
    have e : whenErr o t = 7 := by unfold whenErr; rw [if_neg (fun g => h g.1)]
    have e2 : whenOf o t neg = (0, 0) := by unfold whenOf; rw [e]; rfl
    rw [e, e2]
    have HI := hid hi
    clear hi ht e e2 h
    go_enter Try.func24, Try.ntmps24
    go_wp2_with (go_at_call 40; refine (HI.out _).mono ?_; rintro e w1 ⟨rfl, hb1⟩; have HB1 := hid (show Below w.heap.size w w1 from b_call hb1 (by (repeat (first | assumption | exact Below.refl _ _ | refine b_alloc ?_ _ | refine Below.drew ?_ | refine b_drewN ?_ _ | refine Below.setCell ?_ (by first | omega | (simp; done) | (simp; omega)) _ | refine b_call (by assumption) ?_)))); clear hb1)
    go_ret3
    exact ⟨rfl, HB1.out⟩
end Go.Proofs.Ytbfhgcnfhjhgcaa
