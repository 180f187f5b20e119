/-
  started: a machine that begins with a state.
-/
import Derived.Test.YtbfhgcnfhjhgcaaRetSt
namespace Go.Proofs.Ytbfhgcnfhjhgcaa
open Go.RowKit
set_option linter.unusedVariables false
set_option linter.unusedSimpArgs false

theorem b_drew {B : Nat} {w W : World} (h : Below B w W) : Below B w W.drew := h.drew
theorem rowSl {W : World} {base n : Nat} {v : Value} {xs : List Int} (hn : xs.length = n) (h : W.ownsRow base 3 1 v n (xs.map (Value.int .i64))) : ∃ a c, v = .slice a n c := by
  obtain ⟨a, c, e, _⟩ := rowInts hn h
  exact ⟨a, c, e⟩
/-- Three rows of one's own, laid one after the other. -/
structure Rows3 (base : Nat) (w1 w2 w3 : World) (q : Sl) (s : St) : Prop where
  o1 : w1.ownsRow base 3 1 (.slice q.a s.store.length q.ca) s.store.length (s.store.map (Value.int .i64))
  o2 : w2.ownsRow w1.heap.size 3 1 (.slice q.b s.tape.length q.cb) s.tape.length (s.tape.map (Value.int .i64))
  o3 : w3.ownsRow w2.heap.size 3 1 (.slice q.c s.printed.length q.cc) s.printed.length (s.printed.map (Value.int .i64))
  b2 : Below w1.heap.size w1 w2
  b3 : Below w2.heap.size w2 w3
  bs : base ≤ w1.heap.size
theorem Rows3.mac {base sb : Nat} {w1 w2 w3 : World} {q : Sl} {s : St} (h : Rows3 base w1 w2 w3 q s) (hl : s.store.length = 128) (W : World) (hg : w3.grownBy W (some sb)) (hsb : sb < base) :
    ∃ g, Mac (W.alloc (.cells (stCells q s) 83)) base W.heap.size g q s := by
  have hqa : ∃ g, q.a = some ⟨g, 0, none⟩ := by
    rcases h.o1.2 with ⟨e, e2⟩ | ⟨g, cap, cur, e, r⟩
    · omega
    · simp at e; exact ⟨g, e.1⟩
  obtain ⟨g, hqa⟩ := hqa
  have z2 := h.b2.size
  have z3 := h.b3.size
  have zW := hg.size
  have zb := h.bs
  have l1 : base ≤ g ∧ g < w1.heap.size := h.o1.lt g (by rw [hqa]; rfl)
  have l2 : ∀ r, blkOf q.b = some r → w1.heap.size ≤ r ∧ r < w2.heap.size := fun r e => h.o2.lt r (by rw [own_slice]; exact e)
  have l3 : ∀ r, blkOf q.c = some r → w2.heap.size ≤ r ∧ r < w3.heap.size := fun r e => h.o3.lt r (by rw [own_slice]; exact e)
  have k1 := (ownsRow_below h.b3 (ownsRow_below h.b2 h.o1)).kept hg (.inr (by rw [own_slice, hqa]; intro e; injection e with e; simp only at e; omega))
  have k2 := (ownsRow_below h.b3 h.o2).kept hg (.inr (by rw [own_slice]; intro e; have := l2 sb e; omega))
  have k3 := h.o3.kept hg (.inr (by rw [own_slice]; intro e; have := l3 sb e; omega))
  refine ⟨g, Blk.new W (stCells q s) 83, hqa, k1.alloc _, (ownsRow_low k2 (by omega)).alloc _, (ownsRow_low k3 (by omega)).alloc _, by omega, by omega, ?_, ?_, ?_, ?_, ?_⟩
  · intro e; have := l2 _ e; omega
  · intro e; have := l2 _ e; omega
  · intro e; have := l3 _ e; omega
  · intro e; have := l3 _ e; omega
  · intro r e e2; have := l3 _ e; have := l2 _ e2; omega
theorem out5000 (x : Int) (a : Option Addr) (c : Nat) (w : World) (hx : IntsAt w a [x]) : Calls Try.prog 52 #[.int .i64 0, .int .i64 5000, .slice a 1 c] w (Ret w (.int .i64 (if 0 ≤ x ∧ x ≤ 5000 then -1 else 0))) := out1_any 0 5000 x a c w hx

theorem grown3 (W : World) (b i j k : Nat) (u v x : Value) : W.grownBy (((W.setCell ⟨b, i, none⟩ u).setCell ⟨b, j, none⟩ v).setCell ⟨b, k, none⟩ x) (some b) :=
  ⟨rfl, rfl, rfl, by simp, fun l hl hne => by
    have hb : l ≠ b := fun e => hne (by rw [e])
    rw [Below.heap_setCell _ _ _ l hb, Below.heap_setCell _ _ _ l hb, Below.heap_setCell _ _ _ l hb]⟩
set_option maxRecDepth 100000 in
set_option maxHeartbeats 8000000 in
theorem started_ok (q : Sl) (s : St) (hs : SOk s) (most : Int) (hmo : 0 ≤ most ∧ most ≤ 5000) (w : World) (hx : StAt w q s) : Calls Try.prog 60 #[stVal q s, .int .i64 most] w (StartRet w s) := by
  have hsl : StLen s := by obtain ⟨a, b, c⟩ := hs.len; exact ⟨by unfold Len; omega, by unfold Len; omega, by unfold Len; omega⟩
  have B0 := hid (Blk.new w (stCells q s) 37)
  have HX := hid hx
  have hck := fun W g => Check_any q s hsl W g
  rw [chk_ok hs] at hck
  have HCK := hid hck
  have hou := fun W a c g => out5000 most a c W g
  rw [if_pos hmo] at hou
  have HOU := hid hou
  have HA := hid (fun W g => Clone_any q.a q.ca s.store hsl.1 W g)
  have HB := hid (fun W g => Clone_any q.b q.cb s.tape hsl.2.1 W g)
  have HC := hid (fun W g => Clone_any q.c q.cc s.printed hsl.2.2 W g)
  have HL := hid hs.len.1
  have M0 := hid trivial
  obtain ⟨⟨c0, c1, c2, c3⟩, c4, c5, c6, c7⟩ := stBlk B0.out
  clear hx hck hou hs hsl
  go_enter Try.func60, Try.ntmps60
  go_wp2_with (first
    | (go_at_call 26; refine (HCK.out _ (HX.out.below (by (repeat (first | assumption | exact Below.refl _ _ | refine b_alloc ?_ _ | refine Below.drew ?_ | refine b_drewN ?_ _ | refine Below.setCell ?_ (by first | omega | (simp; done) | (simp; omega)) _ | refine b_call (by assumption) ?_))))).mono ?_; rintro e w1 ⟨rfl, hb1⟩; have HB1 := hid (show Below w.heap.size w w1 from b_call hb1 (by (repeat (first | assumption | exact Below.refl _ _ | refine b_alloc ?_ _ | refine Below.drew ?_ | refine b_drewN ?_ _ | refine Below.setCell ?_ (by first | omega | (simp; done) | (simp; omega)) _ | refine b_call (by assumption) ?_)))); have B1 := hid (B0.out.call hb1); clear hb1 c0 c1 c2 c3 c4 c5 c6 c7)
    | (go_at_call 52; refine (HOU.out _ _ _ (ints1' _ _ _ (by simp))).mono ?_; rintro e w2 ⟨rfl, hb2⟩; have HB2 := hid (b_call hb2 (b_alloc HB1.out _)); have B2 := hid (Blk.call (B1.out.alloc _) hb2); clear hb2))
  obtain ⟨⟨c0, c1, c2, c3⟩, c4, c5, c6, c7⟩ := stBlk B2.out
  have HC2 := hid (And.intro c0 (And.intro c1 c3))
  clear c0 c1 c2 c3 c4 c5 c6 c7 M0
  have M0 := hid trivial
  obtain ⟨c0, c1, c3⟩ := HC2.out
  go_cut [] (fun wx => ∃ w4 w5 w6 q', Rows3 (w.heap.size + 1) w4 w5 w6 q' s ∧ w6.grownBy wx (some w.heap.size) ∧ Blk wx w.heap.size 37 (stCells q' s) ∧ Below w.heap.size w wx)
  case first =>
    go_region_with (first
      | (have m := M0; go_at_call 58; refine (HA.out _ (HX.out.1.below (b_drew HB2.out))).mono ?_; rintro e w4 ⟨v4, rfl, hr4, hb4⟩; obtain ⟨a4, k4, rfl⟩ := rowSl rfl hr4; have HR4 := hid hr4; have HB4 := hid (b_call hb4 (b_drew HB2.out)); have B4 := hid (B2.out.drew.call hb4); obtain ⟨⟨c0, c1, c2, c3⟩, _, _, _, _⟩ := stBlk B4.out; obtain ⟨⟨f0, f1, f2, f3⟩, _, _, _, _⟩ := stFrz B4.out; clear m M0 hr4 hb4; have M1 := hid trivial)
      | (have m := M1; go_at_call 58; refine (HB.out _ (HX.out.2.1.below HB4.out)).mono ?_; rintro e w5 ⟨v5, rfl, hr5, hb5⟩; obtain ⟨a5, k5, rfl⟩ := rowSl rfl hr5; have HR5 := hid hr5; have HB5 := hid hb5; have B5 := hid (B4.out.call hb5); obtain ⟨⟨c0, c1, c2, c3⟩, _, _, _, _⟩ := stBlk B5.out; obtain ⟨⟨f0, f1, f2, f3⟩, _, _, _, _⟩ := stFrz B5.out; clear m M1 hr5 hb5; have M2 := hid trivial)
      | (have m := M2; go_at_call 58; refine (HC.out _ (HX.out.2.2.below (b_call HB5.out HB4.out))).mono ?_; rintro e w6 ⟨v6, rfl, hr6, hb6⟩; obtain ⟨a6, k6, rfl⟩ := rowSl rfl hr6; have HR6 := hid hr6; have HB6 := hid hb6; have B6 := hid (B5.out.call hb6); obtain ⟨⟨c0, c1, c2, c3⟩, _, _, _, _⟩ := stBlk B6.out; obtain ⟨⟨f0, f1, f2, f3⟩, _, _, _, _⟩ := stFrz B6.out; clear m M2 hr6 hb6))
    all_goals
      go_wp2
      go_meet
      have zb2 := (Array.getElem?_eq_some_iff.1 B2.out).1
      have zw2 := HB2.out.size
      have z4 := HB4.out.size
      refine ⟨w4, w5, w6, ⟨a4, a5, a6, k4, k5, k6⟩, ⟨ownsRow_low HR4.out (by simp only [World.size_drew]; omega), HR5.out, HR6.out, HB5.out, HB6.out, ?_⟩, grown3 _ _ _ _ _ _ _ _, ((B6.out.set 0 _).set 1 _).set 3 _, ?_⟩
      · have z9 := (Array.getElem?_eq_some_iff.1 B4.out).1
        omega
      · exact (((b_call HB6.out (b_call HB5.out HB4.out)).setCell (p := ⟨w.heap.size, 0, none⟩) (Nat.le_refl _) _).setCell (p := ⟨w.heap.size, 1, none⟩) (Nat.le_refl _) _).setCell (p := ⟨w.heap.size, 3, none⟩) (Nat.le_refl _) _
  case rest =>
    obtain ⟨w4, w5, w6, q', hr, hg, hb, hbw⟩ := hcut
    obtain ⟨g, hmac⟩ := hr.mac HL.out wc hg (by omega)
    have HMC := hid hmac
    have HBW := hid hbw
    obtain ⟨⟨c0, c1, c2, c3⟩, c4, c5, c6, c7⟩ := stBlk hb
    clear hr hg hb hbw hmac
    go_wp2
    go_ret2
    exact ⟨wc.heap.size, g, q', rfl, HMC.out, b_alloc HBW.out _⟩
end Go.Proofs.Ytbfhgcnfhjhgcaa
