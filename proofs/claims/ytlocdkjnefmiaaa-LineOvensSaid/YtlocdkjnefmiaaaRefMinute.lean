/-
  The reference's minute of an oven, walked.
-/
import Derived.StillTailTactics
import Derived.Test.YtlocdkjnefmiaaaRefMinuteMath
import Derived.Test.YtlocdkjnefmiaaaRefBegin
namespace Go.Proofs.Ytlocdkjnefmiaaa
open Go.RowKit
set_option linter.unusedVariables false
set_option linter.unusedSimpArgs false

/-- Climates lie in a slice. -/
def ClAt (W : World) (a : Option Addr) (l : List Cl) : Prop :=
  ∀ j (hj : j < l.length), ∃ b off, a = some ⟨b, off, none⟩ ∧ W.cell? ⟨b, off + j * 2, none⟩ = some (.int .i64 l[j].1) ∧ W.cell? ⟨b, off + j * 2 + 1, none⟩ = some (.bool l[j].2)
theorem ClAt.below {W W' : World} {a : Option Addr} {l : List Cl} (h : ClAt W a l) (hb : Below W.heap.size W W') : ClAt W' a l := fun j hj => by
  obtain ⟨b, off, e, h1, h2⟩ := h j hj
  exact ⟨b, off, e, cell_later hb h1, cell_later hb h2⟩
theorem rowCls {W : World} {base : Nat} {v : Value} {l : List Cl} (h : W.ownsRow base 121 2 v l.length (cellsC l)) : ∃ a c, v = .slice a l.length c ∧ ClAt W a l := by
  rcases h.2 with ⟨e, h0⟩ | ⟨g, c, cur, e, _⟩
  · exact ⟨none, 0, by rw [e, h0], fun j hj => by rw [h0] at hj; omega⟩
  · subst e
    refine ⟨some ⟨g, 0, none⟩, c, rfl, fun j hj => ⟨g, 0, rfl, ?_, ?_⟩⟩
    · rw [Nat.zero_add]; exact (h.cellAt (j * 2) (by omega)).trans (cellsC_get l j hj).1
    · rw [Nat.zero_add]; exact (h.cellAt (j * 2 + 1) (by omega)).trans (cellsC_get l j hj).2
theorem turn_bd {o : Ov} (ho : o.Ok) {c : Cl} (hc : Cbd c) {j : Nat} (hj : j < turnN o c) : Cbd (turnTo o c j) :=
  steps_bd ho hc _ ((mem_turn ho).1 (List.mem_map.2 ⟨j, List.mem_range.2 hj, rfl⟩))
theorem adds_once {o : Ov} (ho : o.Ok) {c : Cl} (hc : Cbd c) {m : List Cl} (hm : Once m) : ∀ n, n ≤ turnN o c → Once (addsD m (turnL o c n))
  | 0, _ => by simpa [turnL, addsD] using hm
  | n + 1, hn => by
    rw [turnL_succ, addsD_snoc]
    exact (adds_once ho hc hm n (by omega)).add (turn_bd ho hc (by omega))
theorem done_once {o : Ov} (ho : o.Ok) {l : List Cl} (hb : ∀ c ∈ l, Cbd c) : ∀ k, k ≤ l.length → Once (doneL o l k)
  | 0, _ => by rw [doneL_zero]; exact Once.nil
  | k + 1, hk => by
    rw [doneL_succ o l k (by omega)]
    exact adds_once ho (hb _ (List.getElem_mem _)) (done_once ho hb k (by omega)) _ (Nat.le_refl _)


/-- Two cells of a block set. -/
theorem put0 {W : World} {b : Nat} {v : Value} (h : Cel W b 0 v) (x y : Value) : Cel ((W.setCell ⟨b, 0, none⟩ x).setCell ⟨b, 1, none⟩ y) b 0 x :=
  ⟨(World.cell?_setCell_other (W.setCell ⟨b, 0, none⟩ x) ⟨b, 1, none⟩ ⟨b, 0, none⟩ y (by simp)).trans (World.cell?_setCell_same' W ⟨b, 0, none⟩ x (by rw [h.1]; rfl)), by rw [World.frozen?_setCell, World.frozen?_setCell]; exact h.2⟩
theorem put1 {W : World} {b : Nat} {u : Value} (h : Cel W b 1 u) (x y : Value) : Cel ((W.setCell ⟨b, 0, none⟩ x).setCell ⟨b, 1, none⟩ y) b 1 y :=
  ⟨World.cell?_setCell_same' (W.setCell ⟨b, 0, none⟩ x) ⟨b, 1, none⟩ y (by rw [World.cell?_setCell_other W ⟨b, 0, none⟩ ⟨b, 1, none⟩ x (by simp), h.1]; rfl), by rw [World.frozen?_setCell, World.frozen?_setCell]; exact h.2⟩
theorem turnN_eq (o : Ov) (c : Cl) : turnN o c = ((byAt o c).2 - (byAt o c).1 + 1).toNat := rfl
/-- What the inner loop of a minute keeps. -/
structure MinI (B4 : Nat) (w : World) (o : Ov) (bp : Nat) (p q : Int) (bs : List Bool) (v : Value) (m : List Cl) (W : World) : Prop where
  row : W.ownsRow B4 121 2 v m.length (cellsC m)
  apart : v.ownBlock ≠ some bp
  th : W.ownsRow (w.heap.size + 1) 4 1 (.slice (some ⟨w.heap.size + 1, 0, none⟩) 4800 4800) 4800 (bs.map Value.bool)
  mrk : Marked bs m
  oa : OAt W w.heap.size o
  c0 : Cel W bp 0 (.int .i64 p)
  c1 : Cel W bp 1 (.int .i64 q)
  lo : Below w.heap.size w W
  size : B4 ≤ W.heap.size
  big : B4 ≤ bp
theorem MinI.keep {B4 : Nat} {w : World} {o : Ov} {bp : Nat} {p q : Int} {bs : List Bool} {v : Value} {m : List Cl} {W W' : World} (h : MinI B4 w o bp p q bs v m W) (hb : Below W.heap.size W W') : MinI B4 w o bp p q bs v m W' :=
  ⟨ownsRow_below hb h.row, h.apart, ownsRow_below hb h.th, h.mrk, h.oa.call hb, h.c0.call hb, h.c1.call hb, b_call hb h.lo, Nat.le_trans h.size hb.size, h.big⟩
theorem MinI.old {B4 : Nat} {w : World} {o : Ov} {bp : Nat} {p q : Int} {bs : List Bool} {v : Value} {m : List Cl} {W : World} (h : MinI B4 w o bp p q bs v m W) {c : Cl} (hc : c ∈ m) : MinI B4 w o bp p q bs v (addD m c) W := by
  rw [addD, if_pos hc]
  exact h
theorem MinI.push {B4 : Nat} {w : World} {o : Ov} {bp : Nat} {p q : Int} {bs : List Bool} {v : Value} {m : List Cl} {W : World} (h : MinI B4 w o bp p q bs v m W) (hs : w.heap.size + 1 < B4) {u : Int} {hh : Bool} (hb : Cbd (u, hh)) (hn : (u, hh) ∉ m) {i : Nat} (hi : i = idx (u, hh)) {v' : Value} {W3 : World}
    (hown : W3.ownsRow B4 121 2 v' (m.length + 1) (cellsC m ++ [.int .i64 u, .bool hh])) (hg : ((W.setCell ⟨w.heap.size + 1, i, none⟩ (.bool true)).alloc (.cells #[.int .i64 u, .bool hh] 121)).grownBy W3 v.ownBlock)
    (hat : v'.ownBlock = v.ownBlock ∨ ∃ g, v'.ownBlock = some g ∧ W.heap.size ≤ g) : MinI B4 w o bp p q (bs.set i true) v' (addD m (u, hh)) W3 := by
  subst hi
  have hlt := idx_lt hb
  have hst := h.th.stored (idx (u, hh)) (.bool true)
  have hbp := h.c0.lt
  have hbig := h.big
  have hsz := h.size
  have hr : ∀ r, v.ownBlock = some r → B4 ≤ r := ownsRow_block h.row
  have hz3 := hg.size
  simp only [World.size_alloc, World.size_setCell] at hz3
  refine ⟨?_, ?_, ?_, h.mrk.new hb hn, ?_, ?_, ?_, ?_, by omega, hbig⟩
  · rw [addD, if_neg hn, List.length_append, cellsC_snoc]; exact hown
  · rcases hat with e | ⟨g, e, hg'⟩
    · rw [e]; exact h.apart
    · rw [e]; intro e'; cases e'; omega
  · rw [List.map_set]
    exact (hst.1.alloc _).kept hg (.inr (fun e => by have : B4 ≤ w.heap.size + 1 := hr _ e.symm; omega))
  · exact ((h.oa.same (Below.heap_setCell W _ _ w.heap.size (by simp))).same (Below.heap_alloc _ _ _ (by simp; exact h.oa.lt))).same (hg.block _ (by simp; have := h.oa.lt; omega) (fun e => by have := hr _ e.symm; omega))
  · exact ((h.c0.grown hst.2 (fun r e => by cases e; omega)).alloc _).grown hg (fun r e e' => h.apart (by rw [e, e']))
  · exact ((h.c1.grown hst.2 (fun r e => by cases e; omega)).alloc _).grown hg (fun r e e' => h.apart (by rw [e, e']))
  · exact (b_alloc (h.lo.setCell (p := ⟨w.heap.size + 1, idx (u, hh), none⟩) (by simp) _) _).grown hg (by have := h.lo.size; simp; omega) (fun r e => by have := hr r e; omega)
theorem MinI.put {B4 : Nat} {w : World} {o : Ov} {bp : Nat} {p q : Int} {bs : List Bool} {v : Value} {m : List Cl} {W : World} (h : MinI B4 w o bp p q bs v m W) (hs : w.heap.size + 1 < B4) (x y : Int) : MinI B4 w o bp x y bs v m ((W.setCell ⟨bp, 0, none⟩ (.int .i64 x)).setCell ⟨bp, 1, none⟩ (.int .i64 y)) := by
  have g1 : W.grownBy (W.setCell ⟨bp, 0, none⟩ (.int .i64 x)) (some bp) := ⟨rfl, rfl, rfl, by simp, fun k hk hne => Below.heap_setCell W _ _ k (fun e => hne (by rw [e]))⟩
  have g2 : (W.setCell ⟨bp, 0, none⟩ (.int .i64 x)).grownBy ((W.setCell ⟨bp, 0, none⟩ (.int .i64 x)).setCell ⟨bp, 1, none⟩ (.int .i64 y)) (some bp) := ⟨rfl, rfl, rfl, by simp, fun k hk hne => Below.heap_setCell _ _ _ k (fun e => hne (by rw [e]))⟩
  have hbig := h.big
  have hl := h.lo.size
  refine ⟨(h.row.kept g1 (.inr h.apart)).kept g2 (.inr h.apart), h.apart, (h.th.kept g1 (.inr (by simp [Value.ownBlock]; omega))).kept g2 (.inr (by simp [Value.ownBlock]; omega)), h.mrk, ?_, put0 h.c0 _ _, put1 h.c1 _ _, ?_, by simp; exact h.size, hbig⟩
  · exact (h.oa.same (Below.heap_setCell W _ _ w.heap.size (by simp; omega))).same (Below.heap_setCell _ _ _ w.heap.size (by simp; omega))
  · exact (h.lo.setCell (p := ⟨bp, 0, none⟩) (by show w.heap.size ≤ bp; omega) _).setCell (p := ⟨bp, 1, none⟩) (by show w.heap.size ≤ bp; omega) _
theorem newA0 (W : World) : Cel (W.alloc (.cells #[.int .i64 0, .int .i64 0] 31)) W.heap.size 0 (.int .i64 0) := Cel.new _ _ _ _ _ rfl
theorem newA1 (W : World) : Cel (W.alloc (.cells #[.int .i64 0, .int .i64 0] 31)) W.heap.size 1 (.int .i64 0) := Cel.new _ _ _ _ _ rfl
theorem newD0 (W : World) : Cel (W.alloc (.cells #[.int .i64 0, .int .i64 0] 31)).drew W.heap.size 0 (.int .i64 0) := newA0 W
theorem newD1 (W : World) : Cel (W.alloc (.cells #[.int .i64 0, .int .i64 0] 31)).drew W.heap.size 1 (.int .i64 0) := newA1 W
set_option maxRecDepth 100000 in
set_option maxHeartbeats 4000000 in
theorem refMinute_any (o : Ov) (ho : o.Ok) (l : List Cl) (hln : l.length ≤ 3402) (hb : ∀ c ∈ l, Cbd c) (a : Option Addr) (ca : Nat) (w : World) (hx : ClAt w a l) :
    Calls Try.prog 83 #[o.val, .slice a l.length ca] w fun e w' => ∃ v, e = .returned v ∧ w'.ownsRow w.heap.size 121 2 v (doneL o l l.length).length (cellsC (doneL o l l.length)) ∧ Below w.heap.size w w' := by
  obtain ⟨iB, hiB, hzB0, hzB1, hzB2⟩ := info_parts infoB
  obtain ⟨iT, hiT, hzT0, hzT1, hzT2⟩ := info_parts infoT
  have HO := hid ho
  have HX := hid hx
  have HBD := hid hb
  have HON := hid (fun k hk => done_once ho hb k hk)
  have HB0 := hid (b_alloc (Below.refl w.heap.size w) (.cells #[.int .i64 o.lo, .int .i64 o.hi, .int .i64 o.warm.1, .int .i64 o.warm.2, .int .i64 o.cool.1, .int .i64 o.cool.2] 50))
  have HO0 := hid (OAt.new w o)
  clear ho hx hb
  go_enter Try.func83, Try.ntmps83
  go_wp2_with (refine wpList_make_full _ rfl _ _ 91 rfl (w.heap.size + 1) 4 iB (.bool false) 1 Try.underlying91 hiB hzB0 hzB1 .i64 .i64 4800 4800 4800 rfl rfl rfl rfl (by rw [hzB2]; omega) (by unfold maxLen; omega) (by simp) ?_; intro w4 hown hgrow; rw [made_bools] at hown; simp only [World.size_alloc] at hown; have HOWN := hid hown; have HG := hid hgrow; clear hown hgrow)
  have hBO := HOWN.out
  obtain ⟨bs0, hbs0⟩ : ∃ bs0, List.replicate 4800 false = bs0 := ⟨_, rfl⟩
  rw [hbs0] at hBO
  have hM0 : Marked bs0 (doneL o l 0) := by rw [← hbs0, doneL_zero]; exact Marked.nil
  have HM0 := hid hM0
  have HBO := hid hBO
  have HO4 := hid (HO0.out.call (below_of_grown HG.out))
  have HB4 := hid (b_call (below_of_grown HG.out) HB0.out)
  have hs4 : w.heap.size + 1 < w4.heap.size := (HBO.out.lt _ rfl).2
  clear hBO hM0 hbs0 HOWN HG HO0 HB0
  have hw0 : w4.ownsRow w4.heap.size 121 2 (.slice none 0 0) (doneL o l 0).length (cellsC (doneL o l 0)) := by rw [doneL_zero]; exact ⟨by simp [cellsC], .inl ⟨rfl, rfl⟩⟩
  have HW0 := hid hw0
  clear hw0
  go_loopw [7, 8] (fun v i wr => ∃ (k : Nat) (bs : List Bool), k ≤ l.length ∧ i = .int .i64 k ∧ wr.ownsRow w4.heap.size 121 2 v (doneL o l k).length (cellsC (doneL o l k)) ∧
      wr.ownsRow (w.heap.size + 1) 4 1 (.slice (some ⟨w.heap.size + 1, 0, none⟩) 4800 4800) 4800 (bs.map Value.bool) ∧ Marked bs (doneL o l k) ∧ OAt wr w.heap.size o ∧ Below w.heap.size w wr ∧ w4.heap.size ≤ wr.heap.size) (fun _ i _ => l.length - (intOf i).toNat)
  case atStart => exact ⟨0, bs0, Nat.zero_le _, rfl, HW0.out, HBO.out, HM0.out, HO4.out, HB4.out, Nat.le_refl _⟩
  case round =>
    obtain ⟨k, bs, hk, rfl, hrow, hth, hmk, hoa, hbr, hsz⟩ := hrel
    have HROW := hid hrow
    have HTH := hid hth
    have HMK := hid hmk
    have HOA := hid hoa
    have HBR := hid hbr
    clear hrow hth hmk hoa hbr HW0 HBO HM0 HO4 HB4
    by_cases hlt : k < l.length
    · obtain ⟨lb, off, rfl, hc1, hc2⟩ := (HX.out.below HBR.out) k hlt
      have hds := doneL_succ o l k hlt
      have hcb := HBD.out l[k] (List.getElem_mem _)
      obtain ⟨c, hc⟩ : ∃ c, l[k] = c := ⟨_, rfl⟩
      obtain ⟨_, _, e9, hl1, hl2⟩ := HX.out k hlt
      cases e9
      rw [hc] at hds hcb hc1 hc2 hl1
      have HLW := hid hl1
      clear hl1 hl2
      obtain ⟨t, b⟩ := c
      have HDS := hid hds
      have HCB := hid hcb
      have HCC := hid (And.intro hc1 hc2)
      have k0 : (0 : Int) ≤ (k : Int) := by omega
      have k1 : (k : Int) < (l.length : Int) := by omega
      obtain ⟨⟨o0, o1, o2⟩, o3, o4, o5⟩ := HOA.out
      simp only at hc1 hc2
      clear hds hcb hc
      go_wp2
      go_cut [9, 10, 11, 12] (fun c9 c10 c11 c12 wx => ∃ bp, c9 = .bool (heatsAt o (t, b)) ∧ c10 = .pointer (some ⟨bp, 0, none⟩) ∧ c11 = .int .i64 (-1) ∧ c12 = .int .i64 0 ∧ Cel wx bp 0 (.int .i64 o.cool.1) ∧ Cel wx bp 1 (.int .i64 o.cool.2) ∧ wr.heap.size ≤ bp ∧ Below wr.heap.size wr wx)
      case first =>
        have HA := hid (HOA.out)
        go_region_held3 (fun w' => w'.cell? ⟨w.heap.size, 0, none⟩ = some (.int .i64 o.lo) ∧ w'.cell? ⟨w.heap.size, 1, none⟩ = some (.int .i64 o.hi) ∧ w'.cell? ⟨w.heap.size, 2, none⟩ = some (.int .i64 o.warm.1) ∧ w'.cell? ⟨w.heap.size, 3, none⟩ = some (.int .i64 o.warm.2) ∧ w'.cell? ⟨w.heap.size, 4, none⟩ = some (.int .i64 o.cool.1) ∧ w'.cell? ⟨w.heap.size, 5, none⟩ = some (.int .i64 o.cool.2) ∧ w'.cell? ⟨lb, off + k * 2, none⟩ = some (.int .i64 t) ∧ w'.cell? ⟨lb, off + k * 2 + 1, none⟩ = some (.bool b))
          ((obtain ⟨⟨e0, e1, e2⟩, e3, e4, e5⟩ := HA.out; obtain ⟨e6, e7⟩ := HCC.out; exact ⟨cell_later (show Below wr.heap.size wr _ from by (repeat (first | assumption | exact Below.refl _ _ | refine b_alloc ?_ _ | refine Below.drew ?_ | refine b_drewN ?_ _ | refine Below.setCell ?_ (by first | omega | (simp; done) | (simp; omega)) _ | refine b_call (by assumption) ?_))) e0, cell_later (show Below wr.heap.size wr _ from by (repeat (first | assumption | exact Below.refl _ _ | refine b_alloc ?_ _ | refine Below.drew ?_ | refine b_drewN ?_ _ | refine Below.setCell ?_ (by first | omega | (simp; done) | (simp; omega)) _ | refine b_call (by assumption) ?_))) e1, cell_later (show Below wr.heap.size wr _ from by (repeat (first | assumption | exact Below.refl _ _ | refine b_alloc ?_ _ | refine Below.drew ?_ | refine b_drewN ?_ _ | refine Below.setCell ?_ (by first | omega | (simp; done) | (simp; omega)) _ | refine b_call (by assumption) ?_))) e2, cell_later (show Below wr.heap.size wr _ from by (repeat (first | assumption | exact Below.refl _ _ | refine b_alloc ?_ _ | refine Below.drew ?_ | refine b_drewN ?_ _ | refine Below.setCell ?_ (by first | omega | (simp; done) | (simp; omega)) _ | refine b_call (by assumption) ?_))) e3, cell_later (show Below wr.heap.size wr _ from by (repeat (first | assumption | exact Below.refl _ _ | refine b_alloc ?_ _ | refine Below.drew ?_ | refine b_drewN ?_ _ | refine Below.setCell ?_ (by first | omega | (simp; done) | (simp; omega)) _ | refine b_call (by assumption) ?_))) e4, cell_later (show Below wr.heap.size wr _ from by (repeat (first | assumption | exact Below.refl _ _ | refine b_alloc ?_ _ | refine Below.drew ?_ | refine b_drewN ?_ _ | refine Below.setCell ?_ (by first | omega | (simp; done) | (simp; omega)) _ | refine b_call (by assumption) ?_))) e5, cell_later (show Below wr.heap.size wr _ from by (repeat (first | assumption | exact Below.refl _ _ | refine b_alloc ?_ _ | refine Below.drew ?_ | refine b_drewN ?_ _ | refine Below.setCell ?_ (by first | omega | (simp; done) | (simp; omega)) _ | refine b_call (by assumption) ?_))) e6, cell_later (show Below wr.heap.size wr _ from by (repeat (first | assumption | exact Below.refl _ _ | refine b_alloc ?_ _ | refine Below.drew ?_ | refine b_drewN ?_ _ | refine Below.setCell ?_ (by first | omega | (simp; done) | (simp; omega)) _ | refine b_call (by assumption) ?_))) e7⟩))
          (first | (go_at_call 100; refine (refHeats_any o t b _).mono ?_; rintro e w5 ⟨rfl, hb5⟩; have HB5 := hid hb5; try (have n0 := Cel.call (newD0 wr) hb5; have n1 := Cel.call (newD1 wr) hb5; obtain ⟨n0, n0f⟩ := n0; obtain ⟨n1, n1f⟩ := n1); try (have n0 := Cel.call (newA0 wr) hb5; have n1 := Cel.call (newA1 wr) hb5; obtain ⟨n0, n0f⟩ := n0; obtain ⟨n1, n1f⟩ := n1)))
        all_goals
          go_wp2
          go_meet
          have h5 : Below wr.heap.size wr w5 := b_call HB5.out (by (repeat (first | assumption | exact Below.refl _ _ | refine b_alloc ?_ _ | refine Below.drew ?_ | refine b_drewN ?_ _ | refine Below.setCell ?_ (by first | omega | (simp; done) | (simp; omega)) _ | refine b_call (by assumption) ?_)))
          have h5z := h5.size
          try have N0 : Cel w5 wr.heap.size 0 (.int .i64 0) := ⟨n0, n0f⟩
          try have N1 : Cel w5 wr.heap.size 1 (.int .i64 0) := ⟨n1, n1f⟩
          first
            | with_reducible exact ⟨_, rfl, rfl, rfl, rfl, Cel.new _ _ _ 0 _ rfl, Cel.new _ _ _ 1 _ rfl, h5z, b_alloc h5 _⟩
            | with_reducible exact ⟨_, rfl, rfl, rfl, rfl, put0 N0 _ _, put1 N1 _ _, Nat.le_refl _, (h5.setCell (p := ⟨wr.heap.size, 0, none⟩) (Nat.le_refl _) _).setCell (p := ⟨wr.heap.size, 1, none⟩) (Nat.le_refl _) _⟩
      case rest =>
        obtain ⟨bp, rfl, rfl, rfl, rfl, hc0, hc1', hbp, hbw⟩ := hcut
        obtain ⟨hh, hhe⟩ : ∃ hh, heatsAt o (t, b) = hh := ⟨_, rfl⟩
        have hI0 : MinI w4.heap.size w o bp o.cool.1 o.cool.2 bs _ (doneL o l k) wc := ⟨ownsRow_below hbw HROW.out, fun e => by have := (HROW.out.lt _ e).2; omega, ownsRow_below hbw HTH.out, HMK.out, HOA.out.call hbw, hc0, hc1', b_call hbw HBR.out, by have := hbw.size; omega, by omega⟩
        obtain ⟨y0, y0f⟩ := id hc0
        obtain ⟨y1, y1f⟩ := id hc1'
        rw [hhe]
        cases hh
        · have e2 : byAt o (t, b) = o.cool := by unfold byAt; rw [hhe]; rfl
          have e3 : sgAt o (t, b) = (-1) := by unfold sgAt; rw [hhe]; rfl
          have e4 := turnN_eq o (t, b)
          rw [e2] at e4
          have e5 : ∀ j : Nat, turnTo o (t, b) j = (t + (-1) * (o.cool.1 + (j : Int)), false) := fun j => by unfold turnTo; rw [e2, e3, hhe]
          have e6 : o.cool.1 ≤ o.cool.2 := HO.out.2.2.2
          have e7 : (0 ≤ o.cool.1 ∧ o.cool.1 ≤ 100) ∧ 0 ≤ o.cool.2 ∧ o.cool.2 ≤ 100 := HO.out.1.2.2.2
          have HI := hid (hI0 : MinI w4.heap.size w o bp o.cool.1 o.cool.2 bs _ (doneL o l k) (wc))
          have z0 := HI.out.c0.1
          have z1 := HI.out.c1.1
          have z2 := HI.out.c0.2
          obtain ⟨o0', o1', o2', o3', o4', o5'⟩ : (wc.cell? ⟨w.heap.size, 0, none⟩ = some (.int .i64 o.lo) ∧ wc.cell? ⟨w.heap.size, 1, none⟩ = some (.int .i64 o.hi) ∧ wc.cell? ⟨w.heap.size, 2, none⟩ = some (.int .i64 o.warm.1) ∧ wc.cell? ⟨w.heap.size, 3, none⟩ = some (.int .i64 o.warm.2) ∧ wc.cell? ⟨w.heap.size, 4, none⟩ = some (.int .i64 o.cool.1) ∧ wc.cell? ⟨w.heap.size, 5, none⟩ = some (.int .i64 o.cool.2)) := by
            obtain ⟨⟨x0, x1, x2⟩, x3, x4, x5⟩ := HOA.out.call hbw
            exact ⟨x0, x1, x2, x3, x4, x5⟩
          have HN := hid e4
          have HE5 := hid e5
          have HE6 := hid e6
          have HE7 := hid e7
          clear e2 e3 e4 e5 e6 e7
          go_wp2
          obtain ⟨sg, hsg⟩ : ∃ sg : Int, (-1) = sg := ⟨_, rfl⟩
          obtain ⟨av, hav⟩ : ∃ av : Int, 0 = av := ⟨_, rfl⟩
          have HE5' := hid (show ∀ j : Nat, turnTo o (t, b) j = (t + sg * (o.cool.1 + (j : Int)), false) from by rw [← hsg]; exact HE5.out)
          have HIX := hid (show ∀ u : Int, Cbd (u, false) → ((idx (u, false) : Nat) : Int) = av + u + 1200 from fun u hb => by rw [← hav]; unfold idx; unfold Cbd at hb; simp only [Bool.false_eq_true, if_false, if_true] at hb ⊢; omega)
          obtain ⟨N, hN⟩ : ∃ N, turnN o (t, b) = N := ⟨_, rfl⟩
          have hNe := HN.out
          rw [hN] at hNe
          have HNN := hid hN
          have q6 := HE6.out
          have q7 := HE7.out
          obtain ⟨p, hp⟩ : ∃ p, o.cool.1 = p := ⟨_, rfl⟩
          obtain ⟨q, hq⟩ : ∃ q, o.cool.2 = q := ⟨_, rfl⟩
          rw [hp, hq] at HI
          rw [hp] at HE5'
          rw [hp, hq] at hNe q6 q7
          rw [hp]
          have HSV := hid hsg
          have HAV := hid hav
          have hav2 : av = 0 ∨ av = 2400 := by rw [← hav]; first | exact .inl rfl | exact .inr rfl
          clear hN hp hq hsg hav z0 z1 z2 o0' o1' o2' o3' o4' o5' y0 y1 y0f y1f hI0 hc0 hc1' hhe HE5 HE6 HE7 HN
          go_loopw [7, 13] (fun v nv wx => ∃ (j : Nat) (bs' : List Bool), j ≤ N ∧ nv = .int .i64 (p + (j : Int)) ∧ MinI w4.heap.size w o bp p q bs' v (addsD (doneL o l k) (turnL o (t, b) j)) wx) (fun _ nv _ => (q + 1 - intOf nv).toNat)
          case atStart => exact ⟨0, bs, Nat.zero_le _, by simp, by simpa [turnL, addsD] using HI.out⟩
          case round =>
            obtain ⟨j, bs', hj, rfl, hmi⟩ := hrel
            have HM := hid hmi
            clear hmi HI
            by_cases hjl : j < N
            · have hcb := turn_bd HO.out HCB.out (j := j) (by rw [HNN.out]; exact hjl)
              have hts := turnL_succ o (t, b) j
              rw [HE5'.out j] at hcb hts
              obtain ⟨y, hy⟩ : ∃ y, sg * (p + (j : Int)) = y := ⟨_, rfl⟩
              rw [hy] at hcb hts
              obtain ⟨u, hu⟩ : ∃ u, t + y = u := ⟨_, rfl⟩
              rw [hu] at hcb hts
              have hix := HIX.out u hcb
              have hil := idx_lt hcb
              obtain ⟨i, hi⟩ : ∃ i, i = idx (u, false) := ⟨_, rfl⟩
              rw [← hi] at hix hil
              have hub := hcb
              unfold Cbd at hub
              have htb := HCB.out
              unfold Cbd at htb
              simp only at hub htb
              have f1 : IntKind.i64.wrap ((-1) * (p + (j : Int))) = y := by rw [HSV.out, hy]; exact IntWalk.i64_in _ (by omega)
              have f1' : IntKind.i64.wrap (-(p + (j : Int))) = y := by rw [show -(p + (j : Int)) = y by rw [← hy, ← HSV.out]; try omega]; exact IntWalk.i64_in _ (by omega)
              have f2 : IntKind.i64.wrap (t + y) = u := by rw [hu]; exact IntWalk.i64_in _ (by omega)
              have f3 : IntKind.i64.wrap (0 + u) = u := by rw [show (0 : Int) + u = u by omega]; exact IntWalk.i64_in _ (by omega)
              have f3' : IntKind.i64.wrap (u) = u := IntWalk.i64_in _ (by omega)
              have f4 : IntKind.i64.wrap (u + 1200) = (i : Int) := by rw [show u + 1200 = (i : Int) by rw [hix, ← HAV.out]; try omega]; exact IntWalk.i64_in _ (by omega)
              have f5 : IntKind.i64.wrap (p + (j : Int) + 1) = p + (j : Int) + 1 := IntWalk.i64_in _ (by omega)
              have g1 : p + (j : Int) ≤ q := by omega
              have g2 : (0 : Int) ≤ (i : Int) := by omega
              have g3 : (i : Int) < 4800 := by omega
              obtain ⟨m, hm⟩ : ∃ m, addsD (doneL o l k) (turnL o (t, b) j) = m := ⟨_, rfl⟩
              have hon : m.length ≤ 3402 := by rw [← hm]; exact (adds_once HO.out HCB.out (HON.out k (by omega)) j (by rw [HNN.out]; omega)).few
              have hns : addsD (doneL o l k) (turnL o (t, b) (j + 1)) = addD m (u, false) := by rw [hts, addsD_snoc, hm]
              rw [hm] at HM
              have HNS := hid hns
              have hlc := cell_later HM.out.lo HLW.out
              have c0 := HM.out.c0.1
              have c1 := HM.out.c1.1
              have hbl := HM.out.mrk.1
              have hbv := HM.out.mrk.2 _ hcb
              rw [← hi] at hbv
              have e0 := (HM.out.th.cellAt i (by omega)).trans (show _ = some (Value.bool (bs'[i]?.getD false)) by simp [hbl, hil])
              have e1 := HM.out.th.frozenAt i
              rw [hbv] at e0
              have HCB2 := hid hcb
              have HI2 := hid hi
              clear hts hcb hix hy hu hm hns hbv hub htb
              by_cases hin : (u, false) ∈ m
              · rw [decide_eq_true hin] at e0
                have HIN := hid hin
                clear hin hi
                go_wp2
                go_roundw
                case rel => exact ⟨j + 1, bs', by omega, by go_num, by rw [HNS.out]; exact HM.out.old HIN.out⟩
                case measure => simp [intOf]; omega
              · rw [decide_eq_false hin] at e0
                have HIN := hid hin
                have hst := HM.out.th.stored i (.bool true)
                have HR2 := hid (HM.out.row.kept hst.2 (.inr (fun e => by have := (ownsRow_block HM.out.row) _ e; omega)))
                have hz := HM.out.size
                clear hin hi hst
                go_wp2_with (at_builtin; refine wpList_append_own_at _ rfl _ _ 117 rfl w4.heap.size 121 iT (.agg #[.int .i64 0, .bool false]) 2 16 Try.underlying117 hiT hzT0 hzT1 hzT2 rfl (by decide) _ _ _ rfl (HR2.out.alloc _) ⟨_, 0, none⟩ 1 1 [.int .i64 u, .bool false] rfl rfl (two_newT _ _ _ _ _ (by simp)) (by intro u hu; simp at hu; rcases hu with rfl | rfl <;> rfl) (by unfold maxLen; omega) (by omega) (by simp; omega) ?_; intro v' w3 hown3 hg3 hnil hat)
                go_roundw
                case rel => exact ⟨j + 1, bs'.set i true, by omega, by go_num, by rw [HNS.out]; exact HM.out.push hs4 HCB2.out HIN.out HI2.out hown3 hg3 (hat.imp id (fun e => ⟨_, e, by simp⟩))⟩
                case measure => simp [intOf]; omega
            · obtain rfl : j = N := by omega
              have g1 : ¬ p + (j : Int) ≤ q := by omega
              have c0 := HM.out.c0.1
              have c1 := HM.out.c1.1
              go_wp2
              go_roundw
              case rel => exact ⟨k + 1, bs', by omega, by go_num, by rw [HDS.out, HNN.out]; exact HM.out.row, HM.out.th, by rw [HDS.out, HNN.out]; exact HM.out.mrk, HM.out.oa, HM.out.lo, HM.out.size⟩
              case measure => simp [intOf]; omega
        · have e2 : byAt o (t, b) = o.warm := by unfold byAt; rw [hhe]; rfl
          have e3 : sgAt o (t, b) = 1 := by unfold sgAt; rw [hhe]; rfl
          have e4 := turnN_eq o (t, b)
          rw [e2] at e4
          have e5 : ∀ j : Nat, turnTo o (t, b) j = (t + 1 * (o.warm.1 + (j : Int)), true) := fun j => by unfold turnTo; rw [e2, e3, hhe]
          have e6 : o.warm.1 ≤ o.warm.2 := HO.out.2.2.1
          have e7 : (0 ≤ o.warm.1 ∧ o.warm.1 ≤ 100) ∧ 0 ≤ o.warm.2 ∧ o.warm.2 ≤ 100 := HO.out.1.2.2.1
          have HI := hid (MinI.put hI0 hs4 o.warm.1 o.warm.2 : MinI w4.heap.size w o bp o.warm.1 o.warm.2 bs _ (doneL o l k) ((wc.setCell ⟨bp, 0, none⟩ (.int .i64 o.warm.1)).setCell ⟨bp, 1, none⟩ (.int .i64 o.warm.2)))
          have z0 := HI.out.c0.1
          have z1 := HI.out.c1.1
          have z2 := HI.out.c0.2
          obtain ⟨o0', o1', o2', o3', o4', o5'⟩ : (wc.cell? ⟨w.heap.size, 0, none⟩ = some (.int .i64 o.lo) ∧ wc.cell? ⟨w.heap.size, 1, none⟩ = some (.int .i64 o.hi) ∧ wc.cell? ⟨w.heap.size, 2, none⟩ = some (.int .i64 o.warm.1) ∧ wc.cell? ⟨w.heap.size, 3, none⟩ = some (.int .i64 o.warm.2) ∧ wc.cell? ⟨w.heap.size, 4, none⟩ = some (.int .i64 o.cool.1) ∧ wc.cell? ⟨w.heap.size, 5, none⟩ = some (.int .i64 o.cool.2)) := by
            obtain ⟨⟨x0, x1, x2⟩, x3, x4, x5⟩ := HOA.out.call hbw
            exact ⟨x0, x1, x2, x3, x4, x5⟩
          have HN := hid e4
          have HE5 := hid e5
          have HE6 := hid e6
          have HE7 := hid e7
          clear e2 e3 e4 e5 e6 e7
          go_wp2
          generalize (wc.setCell ⟨bp, 0, none⟩ (.int .i64 o.warm.1)).setCell ⟨bp, 1, none⟩ (.int .i64 o.warm.2) = WI at *
          obtain ⟨sg, hsg⟩ : ∃ sg : Int, 1 = sg := ⟨_, rfl⟩
          obtain ⟨av, hav⟩ : ∃ av : Int, 2400 = av := ⟨_, rfl⟩
          have HE5' := hid (show ∀ j : Nat, turnTo o (t, b) j = (t + sg * (o.warm.1 + (j : Int)), true) from by rw [← hsg]; exact HE5.out)
          have HIX := hid (show ∀ u : Int, Cbd (u, true) → ((idx (u, true) : Nat) : Int) = av + u + 1200 from fun u hb => by rw [← hav]; unfold idx; unfold Cbd at hb; simp only [Bool.false_eq_true, if_false, if_true] at hb ⊢; omega)
          obtain ⟨N, hN⟩ : ∃ N, turnN o (t, b) = N := ⟨_, rfl⟩
          have hNe := HN.out
          rw [hN] at hNe
          have HNN := hid hN
          have q6 := HE6.out
          have q7 := HE7.out
          obtain ⟨p, hp⟩ : ∃ p, o.warm.1 = p := ⟨_, rfl⟩
          obtain ⟨q, hq⟩ : ∃ q, o.warm.2 = q := ⟨_, rfl⟩
          rw [hp, hq] at HI
          rw [hp] at HE5'
          rw [hp, hq] at hNe q6 q7
          rw [hp]
          have HSV := hid hsg
          have HAV := hid hav
          have hav2 : av = 0 ∨ av = 2400 := by rw [← hav]; first | exact .inl rfl | exact .inr rfl
          clear hN hp hq hsg hav z0 z1 z2 o0' o1' o2' o3' o4' o5' y0 y1 y0f y1f hI0 hc0 hc1' hhe HE5 HE6 HE7 HN
          go_loopw [7, 13] (fun v nv wx => ∃ (j : Nat) (bs' : List Bool), j ≤ N ∧ nv = .int .i64 (p + (j : Int)) ∧ MinI w4.heap.size w o bp p q bs' v (addsD (doneL o l k) (turnL o (t, b) j)) wx) (fun _ nv _ => (q + 1 - intOf nv).toNat)
          case atStart => exact ⟨0, bs, Nat.zero_le _, by simp, by simpa [turnL, addsD] using HI.out⟩
          case round =>
            obtain ⟨j, bs', hj, rfl, hmi⟩ := hrel
            have HM := hid hmi
            clear hmi HI
            by_cases hjl : j < N
            · have hcb := turn_bd HO.out HCB.out (j := j) (by rw [HNN.out]; exact hjl)
              have hts := turnL_succ o (t, b) j
              rw [HE5'.out j] at hcb hts
              obtain ⟨y, hy⟩ : ∃ y, sg * (p + (j : Int)) = y := ⟨_, rfl⟩
              rw [hy] at hcb hts
              obtain ⟨u, hu⟩ : ∃ u, t + y = u := ⟨_, rfl⟩
              rw [hu] at hcb hts
              have hix := HIX.out u hcb
              have hil := idx_lt hcb
              obtain ⟨i, hi⟩ : ∃ i, i = idx (u, true) := ⟨_, rfl⟩
              rw [← hi] at hix hil
              have hub := hcb
              unfold Cbd at hub
              have htb := HCB.out
              unfold Cbd at htb
              simp only at hub htb
              have f1 : IntKind.i64.wrap (1 * (p + (j : Int))) = y := by rw [HSV.out, hy]; exact IntWalk.i64_in _ (by omega)
              have f1' : IntKind.i64.wrap (p + (j : Int)) = y := by have h9 : p + (j : Int) = y := (by rw [← hy, ← HSV.out, Int.one_mul]); rw [h9]; exact IntWalk.i64_in _ (by omega)
              have f2 : IntKind.i64.wrap (t + y) = u := by rw [hu]; exact IntWalk.i64_in _ (by omega)
              have f3 : IntKind.i64.wrap (2400 + u) = 2400 + u := by rw [show (2400 : Int) + u = 2400 + u by omega]; exact IntWalk.i64_in _ (by omega)
              have f3' : IntKind.i64.wrap (2400 + u) = 2400 + u := IntWalk.i64_in _ (by omega)
              have f4 : IntKind.i64.wrap (2400 + u + 1200) = (i : Int) := by rw [show 2400 + u + 1200 = (i : Int) by rw [hix, ← HAV.out]; try omega]; exact IntWalk.i64_in _ (by omega)
              have f5 : IntKind.i64.wrap (p + (j : Int) + 1) = p + (j : Int) + 1 := IntWalk.i64_in _ (by omega)
              have g1 : p + (j : Int) ≤ q := by omega
              have g2 : (0 : Int) ≤ (i : Int) := by omega
              have g3 : (i : Int) < 4800 := by omega
              obtain ⟨m, hm⟩ : ∃ m, addsD (doneL o l k) (turnL o (t, b) j) = m := ⟨_, rfl⟩
              have hon : m.length ≤ 3402 := by rw [← hm]; exact (adds_once HO.out HCB.out (HON.out k (by omega)) j (by rw [HNN.out]; omega)).few
              have hns : addsD (doneL o l k) (turnL o (t, b) (j + 1)) = addD m (u, true) := by rw [hts, addsD_snoc, hm]
              rw [hm] at HM
              have HNS := hid hns
              have hlc := cell_later HM.out.lo HLW.out
              have c0 := HM.out.c0.1
              have c1 := HM.out.c1.1
              have hbl := HM.out.mrk.1
              have hbv := HM.out.mrk.2 _ hcb
              rw [← hi] at hbv
              have e0 := (HM.out.th.cellAt i (by omega)).trans (show _ = some (Value.bool (bs'[i]?.getD false)) by simp [hbl, hil])
              have e1 := HM.out.th.frozenAt i
              rw [hbv] at e0
              have HCB2 := hid hcb
              have HI2 := hid hi
              clear hts hcb hix hy hu hm hns hbv hub htb
              by_cases hin : (u, true) ∈ m
              · rw [decide_eq_true hin] at e0
                have HIN := hid hin
                clear hin hi
                go_wp2
                go_roundw
                case rel => exact ⟨j + 1, bs', by omega, by go_num, by rw [HNS.out]; exact HM.out.old HIN.out⟩
                case measure => simp [intOf]; omega
              · rw [decide_eq_false hin] at e0
                have HIN := hid hin
                have hst := HM.out.th.stored i (.bool true)
                have HR2 := hid (HM.out.row.kept hst.2 (.inr (fun e => by have := (ownsRow_block HM.out.row) _ e; omega)))
                have hz := HM.out.size
                clear hin hi hst
                go_wp2_with (at_builtin; refine wpList_append_own_at _ rfl _ _ 117 rfl w4.heap.size 121 iT (.agg #[.int .i64 0, .bool false]) 2 16 Try.underlying117 hiT hzT0 hzT1 hzT2 rfl (by decide) _ _ _ rfl (HR2.out.alloc _) ⟨_, 0, none⟩ 1 1 [.int .i64 u, .bool true] rfl rfl (two_newT _ _ _ _ _ (by simp)) (by intro u hu; simp at hu; rcases hu with rfl | rfl <;> rfl) (by unfold maxLen; omega) (by omega) (by simp; omega) ?_; intro v' w3 hown3 hg3 hnil hat)
                go_roundw
                case rel => exact ⟨j + 1, bs'.set i true, by omega, by go_num, by rw [HNS.out]; exact HM.out.push hs4 HCB2.out HIN.out HI2.out hown3 hg3 (hat.imp id (fun e => ⟨_, e, by simp⟩))⟩
                case measure => simp [intOf]; omega
            · obtain rfl : j = N := by omega
              have g1 : ¬ p + (j : Int) ≤ q := by omega
              have c0 := HM.out.c0.1
              have c1 := HM.out.c1.1
              go_wp2
              go_roundw
              case rel => exact ⟨k + 1, bs', by omega, by go_num, by rw [HDS.out, HNN.out]; exact HM.out.row, HM.out.th, by rw [HDS.out, HNN.out]; exact HM.out.mrk, HM.out.oa, HM.out.lo, HM.out.size⟩
              case measure => simp [intOf]; omega
    · obtain rfl : k = l.length := by omega
      go_wp2
      go_ret
      refine ⟨_, rfl, ?_, HBR.out⟩
      have hz := HBR.out.size
      exact ⟨HROW.out.1, HROW.out.2.imp id (fun ⟨g, cap, cur, e, hg, r⟩ => ⟨g, cap, cur, e, by omega, r⟩)⟩
end Go.Proofs.Ytlocdkjnefmiaaa
