/-
  The reference's Oven.
-/
import Derived.StillTailTactics
import Derived.Test.YtlocdkjnefmiaaaRefOvens
namespace Go.Proofs.Ytlocdkjnefmiaaa
open Go.RowKit
set_option linter.unusedVariables false
set_option linter.unusedSimpArgs false

/-- What Oven returns. -/
abbrev ovV (lo hi er : Int) : Value := .tuple #[.agg #[.int .i64 lo, .int .i64 hi], .int .i64 er]
/-- What the reference's Oven has laid. -/
structure OE (w : World) (o : Ov) (s : Int × Int) (W : World) : Prop where
  ov : OAt W w.heap.size o
  s0 : Cel W (w.heap.size + 1) 0 (.int .i64 s.1)
  s1 : Cel W (w.heap.size + 1) 1 (.int .i64 s.2)
  r0 : Cel W (w.heap.size + 1 + 1) 0 (.int .i64 0)
  r1 : Cel W (w.heap.size + 1 + 1) 1 (.int .i64 0)
  lo : Below w.heap.size w W
theorem OE.call {w : World} {o : Ov} {s : Int × Int} {W W' : World} (h : OE w o s W) (hb : Below W.heap.size W W') : OE w o s W' :=
  ⟨h.ov.call hb, h.s0.call hb, h.s1.call hb, h.r0.call hb, h.r1.call hb, b_call hb h.lo⟩
theorem OE.new (w : World) (o : Ov) (s : Int × Int) : OE w o s (((w.alloc (.cells #[.int .i64 o.lo, .int .i64 o.hi, .int .i64 o.warm.1, .int .i64 o.warm.2, .int .i64 o.cool.1, .int .i64 o.cool.2] 50)).alloc (.cells #[.int .i64 s.1, .int .i64 s.2] 31)).alloc (.cells #[.int .i64 0, .int .i64 0] 31)) := by
  have h1 := OAt.new w o
  generalize hW1 : w.alloc (.cells #[.int .i64 o.lo, .int .i64 o.hi, .int .i64 o.warm.1, .int .i64 o.warm.2, .int .i64 o.cool.1, .int .i64 o.cool.2] 50) = W1 at *
  have z1 : W1.heap.size = w.heap.size + 1 := by rw [← hW1]; simp
  have hb1 : Below w.heap.size w W1 := by rw [← hW1]; exact b_alloc (Below.refl _ _) _
  have c0 := (Cel.new W1 #[.int .i64 s.1, .int .i64 s.2] 31 0 _ rfl)
  have c1 := (Cel.new W1 #[.int .i64 s.1, .int .i64 s.2] 31 1 _ rfl)
  generalize hW2 : W1.alloc (.cells #[.int .i64 s.1, .int .i64 s.2] 31) = W2 at *
  have z2 : W2.heap.size = w.heap.size + 1 + 1 := by rw [← hW2]; simp [z1]
  have hb2 : Below W1.heap.size W1 W2 := by rw [← hW2]; exact b_alloc (Below.refl _ _) _
  have d0 := Cel.new W2 #[.int .i64 0, .int .i64 0] 31 0 _ rfl
  have d1 := Cel.new W2 #[.int .i64 0, .int .i64 0] 31 1 _ rfl
  rw [z2] at d0 d1
  rw [z1] at c0 c1
  have hb3 := b_alloc (Below.refl W2.heap.size W2) (.cells #[.int .i64 0, .int .i64 0] 31)
  exact ⟨(h1.call hb2).call hb3, c0.call hb3, c1.call hb3, d0, d1, b_call hb3 (b_call hb2 hb1)⟩

set_option maxRecDepth 100000 in
set_option maxHeartbeats 1000000 in
theorem refOvenM_err (o : Ov) (s : Int × Int) (h : Bool) (m er : Int) (he : ovErr o s m = er) (hne : er ≠ 0) (w : World) :
    Calls Try.prog 37 #[o.val, spanV s, .bool h, .int .i64 m] w (Ret w (ovV 0 0 er)) := by
  have HE0 := hid (OE.new w o s)
  have hov := fun W => refOven_any o s m W
  rw [he] at hov
  have HOV := hid hov
  have hne' : (er != 0) = true := by simpa using hne
  clear hov he
  go_enter Try.func37, Try.ntmps37
  go_wp2_with (first
    | (go_at_call 81; refine (HOV.out _).mono ?_; rintro e w2 ⟨rfl, hb2⟩; have HE2 := hid (HE0.out.call hb2); clear hb2; obtain ⟨r0, r0f⟩ := HE2.out.r0; obtain ⟨r1, r1f⟩ := HE2.out.r1; have q1 := (World.cell?_setCell_other w2 ⟨w.heap.size + 1 + 1, 0, none⟩ ⟨w.heap.size + 1 + 1, 1, none⟩ (.int .i64 0) (by simp)).trans r1))
  have z0 := put0 (W := w2) ⟨r0, r0f⟩ (.int .i64 0) (.int .i64 0)
  have z1 := put1 (W := w2) ⟨r1, r1f⟩ (.int .i64 0) (.int .i64 0)
  have z0 := z0.1
  have z1 := z1.1
  have hbf := (HE2.out.lo.setCell (p := ⟨w.heap.size + 1 + 1, 0, none⟩) (by show w.heap.size ≤ w.heap.size + 1 + 1; omega) (.int .i64 0)).setCell (p := ⟨w.heap.size + 1 + 1, 1, none⟩) (by show w.heap.size ≤ w.heap.size + 1 + 1; omega) (.int .i64 0)
  generalize World.setCell (World.setCell w2 ⟨w.heap.size + 1 + 1, 0, none⟩ (.int .i64 0)) ⟨w.heap.size + 1 + 1, 1, none⟩ (.int .i64 0) = WF at *
  refine ⟨rfl, ovV 0 0 er, ?_, rfl, hbf⟩
  simp [results, Try.f37, go_sem, z0, z1]

/-- The ends of all that can be until minute m. -/
def rends (o : Ov) (s : Int × Int) (h : Bool) (m : Int) (lo hi : Int) : Prop :=
  (∀ (j : Nat) (c : Cl), (j : Int) ≤ m → CanBe o s h j c → lo ≤ c.1 ∧ c.1 ≤ hi) ∧ (∃ (j : Nat) (b : Bool), (j : Int) ≤ m ∧ CanBe o s h j (lo, b)) ∧ ∃ (j : Nat) (b : Bool), (j : Int) ≤ m ∧ CanBe o s h j (hi, b)
theorem rends_is {o : Ov} {s : Int × Int} {h : Bool} {m lo hi : Int} (he : ovErr o s m = 0) (hr : rends o s h m lo hi) : lo = (ovEnds o s h m).1 ∧ hi = (ovEnds o s h m).2.1 := by
  obtain ⟨a, ⟨j1, b1, h1, c1⟩, j2, b2, h2, c2⟩ := hr
  obtain ⟨⟨j3, b3, h3, c3⟩, j4, b4, h4, c4⟩ := ends_can (h := h) he
  have e1 := ends_of_temp he h1 c1
  have e2 := ends_of_temp he h2 c2
  have e3 := a _ _ h3 c3
  have e4 := a _ _ h4 c4
  simp only at e1 e2 e3 e4
  exact ⟨by omega, by omega⟩
def OvenRet (w : World) (o : Ov) (s : Int × Int) (h : Bool) (m : Int) (e : Ending) (w' : World) : Prop := ∃ lo hi, e = .returned (ovV lo hi 0) ∧ rends o s h m lo hi ∧ Below w.heap.size w w'
theorem OE.grown {w : World} {o : Ov} {s : Int × Int} {W W' : World} (h : OE w o s W) {ob : Nat} (hg : W.grownBy W' (some ob)) (hob : w.heap.size + 1 + 1 < ob) : OE w o s W' :=
  ⟨h.ov.same (hg.block _ h.ov.lt (fun e => by cases e; omega)), h.s0.grown hg (fun r e => by cases e; omega), h.s1.grown hg (fun r e => by cases e; omega), h.r0.grown hg (fun r e => by cases e; omega), h.r1.grown hg (fun r e => by cases e; omega), h.lo.grown hg h.lo.size (fun r e => by cases e; omega)⟩
theorem OE.drew {w : World} {o : Ov} {s : Int × Int} {W : World} (h : OE w o s W) : OE w o s W.drew := ⟨h.ov, h.s0, h.s1, h.r0, h.r1, h.lo.drew⟩
theorem grown2 (W : World) (b : Nat) (x y : Value) : W.grownBy ((W.setCell ⟨b, 0, none⟩ x).setCell ⟨b, 1, none⟩ y) (some b) :=
  ⟨rfl, rfl, rfl, by simp, fun k hk hne => by rw [Below.heap_setCell _ _ _ k (fun e => hne (by rw [e])), Below.heap_setCell W _ _ k (fun e => hne (by rw [e]))]⟩

/-- What the inner loop has seen. -/
def Seen (o : Ov) (s : Int × Int) (h : Bool) (m : Nat) (xs : List Cl) (i : Nat) (lo hi : Int) : Prop :=
  (∀ (j : Nat) (c : Cl), j ≤ m → CanBe o s h j c → lo ≤ c.1 ∧ c.1 ≤ hi) ∧ (∀ (i' : Nat) (h' : i' < xs.length), i' < i → lo ≤ xs[i'].1 ∧ xs[i'].1 ≤ hi) ∧ (∃ (j : Nat) (b : Bool), j ≤ m + 1 ∧ CanBe o s h j (lo, b)) ∧ ∃ (j : Nat) (b : Bool), j ≤ m + 1 ∧ CanBe o s h j (hi, b)
theorem Seen.next {o : Ov} {s : Int × Int} {h : Bool} {m : Nat} {xs : List Cl} {i : Nat} {lo hi : Int} (k : Seen o s h m xs i lo hi) {t : Int} {b : Bool} (hx : ∃ hi' : i < xs.length, xs[i] = (t, b)) (hc : CanBe o s h (m + 1) (t, b)) {lo' hi' : Int} (h1 : lo' = min lo t) (h2 : hi' = max hi t) : Seen o s h m xs (i + 1) lo' hi' := by
  obtain ⟨a, g, ⟨j1, b1, e1, c1⟩, j2, b2, e2, c2⟩ := k
  obtain ⟨hlt, hxe⟩ := hx
  refine ⟨fun j c hj hc => by have := a j c hj hc; omega, fun i' h' hi => ?_, ?_, ?_⟩
  · by_cases e : i' = i
    · subst e; rw [hxe]; simp only; omega
    · have := g i' h' (by omega); omega
  · rcases (by omega : lo' = lo ∨ lo' = t) with e | e
    · rw [e]; exact ⟨j1, b1, e1, c1⟩
    · rw [e]; exact ⟨m + 1, b, Nat.le_refl _, hc⟩
  · rcases (by omega : hi' = hi ∨ hi' = t) with e | e
    · rw [e]; exact ⟨j2, b2, e2, c2⟩
    · rw [e]; exact ⟨m + 1, b, Nat.le_refl _, hc⟩

set_option maxRecDepth 100000 in
set_option maxHeartbeats 4000000 in
theorem refOvenM_ok (o : Ov) (s : Int × Int) (h : Bool) (M : Nat) (he : ovErr o s M = 0) (w : World) :
    Calls Try.prog 37 #[o.val, spanV s, .bool h, .int .i64 M] w (OvenRet w o s h M) := by
  obtain ⟨ho, ⟨hs1, hs2, hs3⟩, hm1, hm2⟩ := ovErr_ok he
  have HO := hid ho
  have hov := fun W => refOven_any o s M W
  rw [he] at hov
  have HOV := hid hov
  have HBG := hid (fun W => refBegin_any s h hs1 hs2 hs3 W)
  have HMEM := hid (fun m c => mem_rlist (h := h) ho hs3 m c)
  have HON := hid (fun m => rlist_once (h := h) ho hs1 hs2 m)
  have HE0 := hid (OE.new w o s)
  clear ho hov he
  go_enter Try.func37, Try.ntmps37
  go_wp2_with (first
    | (go_at_call 81; refine (HOV.out _).mono ?_; rintro e w2 ⟨rfl, hb2⟩; have HE2 := hid (HE0.out.call hb2); clear hb2; obtain ⟨p0, p0f⟩ := HE2.out.s0; obtain ⟨p1, p1f⟩ := HE2.out.s1))
  go_cut [11, 12] (fun c11 c12 wx => ∃ (ob : Nat) (a : Option Addr) (c : Nat), c11 = .pointer (some ⟨ob, 0, none⟩) ∧ c12 = .slice a (rlist o s h 0).length c ∧ ClAt wx a (rlist o s h 0) ∧ Cel wx ob 0 (.int .i64 s.1) ∧ Cel wx ob 1 (.int .i64 s.2) ∧ w2.heap.size ≤ ob ∧ Below w2.heap.size w2 wx)
  case first =>
    have HP := hid (And.intro p0 p1)
    go_region_held3 (fun w' => w'.cell? ⟨w.heap.size + 1, 0, none⟩ = some (.int .i64 s.1) ∧ w'.cell? ⟨w.heap.size + 1, 1, none⟩ = some (.int .i64 s.2))
      ((obtain ⟨e0, e1⟩ := HP.out; exact ⟨cell_later (show Below w2.heap.size w2 _ from by (repeat (first | assumption | exact Below.refl _ _ | refine b_alloc ?_ _ | refine Below.drew ?_ | refine b_drewN ?_ _ | refine Below.setCell ?_ (by first | omega | (simp; done) | (simp; omega)) _ | refine b_call (by assumption) ?_))) e0, cell_later (show Below w2.heap.size w2 _ from by (repeat (first | assumption | exact Below.refl _ _ | refine b_alloc ?_ _ | refine Below.drew ?_ | refine b_drewN ?_ _ | refine Below.setCell ?_ (by first | omega | (simp; done) | (simp; omega)) _ | refine b_call (by assumption) ?_))) e1⟩))
      (first | (go_at_call 82; refine (HBG.out _).mono ?_; rintro e w5 ⟨v5, rfl, hrow, hb5⟩; have hr5 : w5.ownsRow _ 121 2 v5 (rlist o s h 0).length (cellsC (rlist o s h 0)) := (by rw [rlist, spread_len]; exact hrow); obtain ⟨a5, c5, rfl, hc5⟩ := rowCls hr5; have HR5 := hid hr5; have HC5 := hid hc5; have HB5 := hid hb5; try (have n0 := Cel.call (newD0 w2) hb5; have n1 := Cel.call (newD1 w2) hb5; obtain ⟨n0, n0f⟩ := n0; obtain ⟨n1, n1f⟩ := n1); try (have n0 := Cel.call (newA0 w2) hb5; have n1 := Cel.call (newA1 w2) hb5; obtain ⟨n0, n0f⟩ := n0; obtain ⟨n1, n1f⟩ := n1); clear hrow hb5 hr5 hc5))
    all_goals
      go_wp2
      go_meet
      have h5 : Below w2.heap.size w2 w5 := b_call HB5.out (by (repeat (first | assumption | exact Below.refl _ _ | refine b_alloc ?_ _ | refine Below.drew ?_ | refine b_drewN ?_ _ | refine Below.setCell ?_ (by first | omega | (simp; done) | (simp; omega)) _ | refine b_call (by assumption) ?_)))
      have h5z := h5.size
      try have N0 : Cel w5 w2.heap.size 0 (.int .i64 0) := ⟨n0, n0f⟩
      try have N1 : Cel w5 w2.heap.size 1 (.int .i64 0) := ⟨n1, n1f⟩
      first
        | with_reducible exact ⟨_, _, _, rfl, rfl, HC5.out.below (b_alloc (Below.refl _ _) _), Cel.new _ _ _ 0 _ rfl, Cel.new _ _ _ 1 _ rfl, h5z, b_alloc h5 _⟩
        | (refine ⟨_, _, _, rfl, rfl, ?_, put0 N0 _ _, put1 N1 _ _, Nat.le_refl _, (h5.setCell (p := ⟨w2.heap.size, 0, none⟩) (Nat.le_refl _) _).setCell (p := ⟨w2.heap.size, 1, none⟩) (Nat.le_refl _) _⟩
           obtain ⟨a6, c6, e6, hc6⟩ := rowCls (HR5.out.kept (grown2 w5 w2.heap.size (.int .i64 s.1) (.int .i64 s.2)) (.inr (fun e => by have h9 := ownsRow_block HR5.out _ e; simp only [World.size_alloc, World.size_drew] at h9; omega)))
           cases e6
           exact hc6)
  case rest =>
    obtain ⟨ob, a, ca, rfl, rfl, hc0, ho0, ho1, hob, hbw⟩ := hcut
    have HC0 := hid hc0
    have HO0 := hid (And.intro ho0 ho1)
    have HE3 := hid (HE2.out.call hbw)
    have hob2 : w.heap.size + 1 + 1 < ob := by have := HE2.out.r0.lt; omega
    clear hc0 ho0 ho1 hbw p0 p1 p0f p1f
    have hr0 : rends o s h ((0 : Nat) : Int) s.1 s.2 := ⟨fun j c hj hc => by
      obtain rfl : j = 0 := by omega
      cases hc with
      | start x y => exact ⟨x, y⟩, ⟨0, h, Int.le_refl _, .start (Int.le_refl _) hs3⟩, ⟨0, h, Int.le_refl _, .start hs3 (Int.le_refl _)⟩⟩
    have HR0 := hid hr0
    clear hr0
    go_wp2
    go_loopw [12, 13] (fun v mv wr => ∃ (m : Nat) (a : Option Addr) (c : Nat) (lo hi : Int), m ≤ M ∧ mv = .int .i64 (m : Int) ∧ v = .slice a (rlist o s h m).length c ∧ ClAt wr a (rlist o s h m) ∧ OE w o s wr ∧ Cel wr ob 0 (.int .i64 lo) ∧ Cel wr ob 1 (.int .i64 hi) ∧ rends o s h (m : Int) lo hi) (fun _ mv _ => (M : Int).toNat - (intOf mv).toNat)
    case atStart => exact ⟨0, a, ca, s.1, s.2, Nat.zero_le _, rfl, rfl, HC0.out, HE3.out, HO0.out.1, HO0.out.2, HR0.out⟩
    case round =>
      obtain ⟨m, a, ca, lo, hi, hm, rfl, rfl, hc, hoe, ho0, ho1, hre⟩ := hrel
      have HC := hid hc
      have HE := hid hoe
      have HO1 := hid (And.intro ho0 ho1)
      have HRE := hid hre
      clear hc hoe ho0 ho1 hre HC0 HE3 HO0 HR0
      by_cases hlt : m < M
      · have hlt2 : (m : Int) < (M : Int) := by omega
        have hon := HON.out m
        have hfew := hon.few
        have HBD := hid hon.2
        obtain ⟨ys, hys⟩ : ∃ ys, rlist o s h m = ys := ⟨_, rfl⟩
        have HYS := hid hys
        rw [hys] at HC hon hfew HBD
        rw [hys]
        obtain ⟨⟨o0, o1, o2⟩, o3, o4, o5⟩ := HE.out.ov
        clear hys hon
        go_wp2_with (first
          | (go_at_call 83; refine (refMinute_any o HO.out ys hfew HBD.out a ca _ HC.out).mono ?_; rintro e w6 ⟨v6, rfl, hrow, hb6⟩; have hr6 : w6.ownsRow wr.heap.size 121 2 v6 (rlist o s h (m + 1)).length (cellsC (rlist o s h (m + 1))) := (by rw [rlist, HYS.out]; exact hrow); obtain ⟨a6, c6, rfl, _⟩ := rowCls hr6; have HR6 := hid hr6; have HE6 := hid (HE.out.call hb6); have HO6 := hid (And.intro (HO1.out.1.call hb6) (HO1.out.2.call hb6)); clear hrow hb6 hr6))
        have hobl : ob < wr.heap.size := HO1.out.1.lt
        obtain ⟨B5, hB5⟩ : ∃ B5, wr.heap.size = B5 := ⟨_, rfl⟩
        rw [hB5] at HR6 hobl
        obtain ⟨xs, hxs⟩ : ∃ xs, rlist o s h (m + 1) = xs := ⟨_, rfl⟩
        have hmx := HMEM.out (m + 1)
        have hfx := (HON.out (m + 1)).few
        rw [hxs] at HR6 hmx hfx
        rw [hxs]
        have HXS := hid hxs
        have HMX := hid hmx
        have hse0 : Seen o s h m xs 0 lo hi := by
          obtain ⟨x, ⟨j1, b1, e1, c1⟩, j2, b2, e2, c2⟩ := HRE.out
          exact ⟨fun j c hj hc => x j c (by omega) hc, fun i' h' hi => by omega, ⟨j1, b1, by omega, c1⟩, ⟨j2, b2, by omega, c2⟩⟩
        have HSE := hid hse0
        clear hxs hmx hse0 o0 o1 o2 o3 o4 o5
        go_loopw [14] (fun iv wx => ∃ (i : Nat) (lo hi : Int), i ≤ xs.length ∧ iv = .int .i64 (i : Int) ∧ wx.ownsRow B5 121 2 (.slice a6 xs.length c6) xs.length (cellsC xs) ∧ OE w o s wx ∧ Cel wx ob 0 (.int .i64 lo) ∧ Cel wx ob 1 (.int .i64 hi) ∧ Seen o s h m xs i lo hi) (fun iv _ => xs.length - (intOf iv).toNat)
        case atStart => exact ⟨0, lo, hi, Nat.zero_le _, rfl, HR6.out, HE6.out, HO6.out.1, HO6.out.2, HSE.out⟩
        case round =>
          clear HSE HO6 HE6 HR6 HO1 HRE HC HE
          clear lo hi
          obtain ⟨i, lo, hi, hi1, rfl, hrow, hoe, ho0, ho1, hse⟩ := hrel
          have HR := hid hrow
          have HE := hid hoe
          have HC2 := hid (And.intro ho0 ho1)
          have HSE := hid hse
          by_cases hil : i < xs.length
          · obtain ⟨a7, c7, e7, hcl⟩ := rowCls hrow
            cases e7
            obtain ⟨lb, off, rfl, hc1, hc2⟩ := hcl i hil
            have hcan := (HMX.out xs[i]).1 (List.getElem_mem _)
            obtain ⟨x, hx⟩ : ∃ x, xs[i] = x := ⟨_, rfl⟩
            rw [hx] at hc1 hcan
            obtain ⟨t, b⟩ := x
            simp only at hc1
            have HX := hid (show ∃ hi' : i < xs.length, xs[i] = (t, b) from ⟨hil, hx⟩)
            have HCAN := hid hcan
            have i0 : (0 : Int) ≤ (i : Int) := by omega
            have i1 : (i : Int) < (xs.length : Int) := by omega
            obtain ⟨q0, q0f⟩ := ho0
            obtain ⟨q1, q1f⟩ := ho1
            clear hc2 hx hcan hcl hrow hoe hse
            go_wp2
            go_still_tail 17, (by kernel_rfl)
            change wpList _ _ _ _ _ (World.drew _)
            go_wp2
            go_roundw
            case rel =>
              have hk1 := HR.out.kept (grown2 wr ob (.int .i64 (if t < lo then t else lo)) (.int .i64 (if hi < t then t else hi))) (.inr (fun e => by have h9 : B5 ≤ ob := ownsRow_block HR.out _ e; omega))
              have hk2 := (HE.out.grown (grown2 wr ob (.int .i64 (if t < lo then t else lo)) (.int .i64 (if hi < t then t else hi))) hob2).drew
              have hk3 := put0 HC2.out.1 (.int .i64 (if t < lo then t else lo)) (.int .i64 (if hi < t then t else hi))
              have hk4 := put1 HC2.out.2 (.int .i64 (if t < lo then t else lo)) (.int .i64 (if hi < t then t else hi))
              exact ⟨i + 1, if t < lo then t else lo, if hi < t then t else hi, by omega, by go_num, hk1, hk2, hk3, hk4, HSE.out.next HX.out HCAN.out (by split <;> omega) (by split <;> omega)⟩
            case measure => simp [intOf]; omega
          · obtain rfl : i = xs.length := by omega
            obtain ⟨a7, c7, e7, hcl⟩ := rowCls hrow
            cases e7
            clear hrow hoe hse
            go_wp2
            go_roundw
            case rel => exact ⟨m + 1, a6, c6, lo, hi, by omega, by go_num, by rw [HXS.out], by rw [HXS.out]; exact hcl, HE.out, HC2.out.1, HC2.out.2, by
                          obtain ⟨x, y, ⟨j1, b1, e1, c1⟩, j2, b2, e2, c2⟩ := HSE.out
                          refine ⟨fun j c hj hc => ?_, ⟨j1, b1, by omega, c1⟩, ⟨j2, b2, by omega, c2⟩⟩
                          by_cases g : j = m + 1
                          · subst g
                            obtain ⟨i', hi', e⟩ := List.getElem_of_mem ((HMX.out c).2 hc)
                            rw [← e]; exact y i' hi' hi'
                          · exact x j c (by omega) hc⟩
            case measure => simp [intOf]; omega
      · obtain rfl : m = M := by omega
        obtain ⟨q0, q0f⟩ := HO1.out.1
        obtain ⟨q1, q1f⟩ := HO1.out.2
        obtain ⟨r0, r0f⟩ := HE.out.r0
        obtain ⟨r1, r1f⟩ := HE.out.r1
        go_wp2
        have z0 := (put0 (W := wr) HE.out.r0 (.int .i64 lo) (.int .i64 hi)).1
        have z1 := (put1 (W := wr) HE.out.r1 (.int .i64 lo) (.int .i64 hi)).1
        have hbf := (HE.out.lo.setCell (p := ⟨w.heap.size + 1 + 1, 0, none⟩) (by show w.heap.size ≤ w.heap.size + 1 + 1; omega) (.int .i64 lo)).setCell (p := ⟨w.heap.size + 1 + 1, 1, none⟩) (by show w.heap.size ≤ w.heap.size + 1 + 1; omega) (.int .i64 hi)
        generalize World.setCell (World.setCell wr ⟨w.heap.size + 1 + 1, 0, none⟩ (.int .i64 lo)) ⟨w.heap.size + 1 + 1, 1, none⟩ (.int .i64 hi) = WF at *
        refine ⟨rfl, ovV lo hi 0, ?_, lo, hi, rfl, HRE.out, hbf⟩
        simp [results, Try.f37, go_sem, z0, z1]
theorem refOvenM_any (o : Ov) (s : Int × Int) (h : Bool) (m : Int) (w : World) : Calls Try.prog 37 #[o.val, spanV s, .bool h, .int .i64 m] w (Ret w (.tuple #[.agg #[.int .i64 (if ovErr o s m = 0 then (ovEnds o s h m).1 else 0), .int .i64 (if ovErr o s m = 0 then (ovEnds o s h m).2.1 else 0)], .int .i64 (ovErr o s m)])) := by
  by_cases he : ovErr o s m = 0
  · rw [if_pos he, if_pos he, he]
    have hm := (ovErr_ok he).2.2
    obtain ⟨M, hM⟩ : ∃ M : Nat, m = (M : Int) := ⟨m.toNat, by omega⟩
    subst hM
    refine (refOvenM_ok o s h M he w).mono ?_
    rintro e w' ⟨lo, hi, rfl, hr, hb⟩
    obtain ⟨e1, e2⟩ := rends_is he hr
    exact ⟨by rw [e1, e2], hb⟩
  · rw [if_neg he, if_neg he]; exact refOvenM_err o s h m _ rfl he w
end Go.Proofs.Ytlocdkjnefmiaaa
