/-
  A minute of an oven: minuteOf, the closure that it returns, and the iterator that this returns.
-/
import Derived.Test.YtlocdkjnefmiaaaOven
namespace Go.Proofs.Ytlocdkjnefmiaaa
open Go.RowKit Go.Shelf
set_option linter.unusedVariables false
set_option linter.unusedSimpArgs false

abbrev Cl := Int × Bool
abbrev Cl.val (c : Cl) : Value := .agg #[.int .i64 c.1, .bool c.2]
/-- Numbers of an oven that is asked about. -/
def Ov.Ok (o : Ov) : Prop := (Temp o.lo ∧ Temp o.hi ∧ Change o.warm ∧ Change o.cool) ∧ o.lo ≤ o.hi ∧ o.warm.1 ≤ o.warm.2 ∧ o.cool.1 ≤ o.cool.2
def heatsAt (o : Ov) (c : Cl) : Bool := decide (c.1 < o.lo) || (decide (c.1 ≤ o.hi) && c.2)
def lowAt (o : Ov) (c : Cl) : Int := if heatsAt o c then c.1 + o.warm.1 else c.1 - o.cool.2
def highAt (o : Ov) (c : Cl) : Int := if heatsAt o c then c.1 + o.warm.2 else c.1 - o.cool.1
/-- Temperatures from lo on, k of them. -/
def spread (lo : Int) (h : Bool) (k : Nat) : List Cl := (List.range k).map fun j : Nat => (lo + (j : Int), h)
theorem spread_succ (lo : Int) (h : Bool) (k : Nat) : spread lo h (k + 1) = spread lo h k ++ [(lo + (k : Int), h)] := by simp [spread, List.range_succ]
theorem spread_len (lo : Int) (h : Bool) (k : Nat) : (spread lo h k).length = k := by simp [spread]
def manyAt (o : Ov) (c : Cl) : Nat := (highAt o c - lowAt o c + 1).toNat
def stepsOf (o : Ov) (c : Cl) : List Cl := spread (lowAt o c) (heatsAt o c) (manyAt o c)
/-- Where an oven lies. -/
def OAt (W : World) (b : Nat) (o : Ov) : Prop := (W.cell? ⟨b, 0, none⟩ = some (.int .i64 o.lo) ∧ W.cell? ⟨b, 1, none⟩ = some (.int .i64 o.hi) ∧ W.cell? ⟨b, 2, none⟩ = some (.int .i64 o.warm.1)) ∧ W.cell? ⟨b, 3, none⟩ = some (.int .i64 o.warm.2) ∧ W.cell? ⟨b, 4, none⟩ = some (.int .i64 o.cool.1) ∧ W.cell? ⟨b, 5, none⟩ = some (.int .i64 o.cool.2)
theorem OAt.lt {W : World} {b : Nat} {o : Ov} (h : OAt W b o) : b < W.heap.size := by have := World.block_lt_of_cell? _ _ h.1.1; simpa using this
theorem OAt.same {W W' : World} {b : Nat} {o : Ov} (h : OAt W b o) (e : W'.heap[b]? = W.heap[b]?) : OAt W' b o :=
  ⟨⟨(World.cell?_of_block (a := ⟨b, 0, none⟩) e).trans h.1.1, (World.cell?_of_block (a := ⟨b, 1, none⟩) e).trans h.1.2.1, (World.cell?_of_block (a := ⟨b, 2, none⟩) e).trans h.1.2.2⟩, (World.cell?_of_block (a := ⟨b, 3, none⟩) e).trans h.2.1, (World.cell?_of_block (a := ⟨b, 4, none⟩) e).trans h.2.2.1, (World.cell?_of_block (a := ⟨b, 5, none⟩) e).trans h.2.2.2⟩
theorem OAt.call {W W' : World} {b : Nat} {o : Ov} (h : OAt W b o) (hb : Below W.heap.size W W') : OAt W' b o := h.same (hb.block b h.lt)
theorem OAt.new (w : World) (o : Ov) : OAt (w.alloc (.cells #[.int .i64 o.lo, .int .i64 o.hi, .int .i64 o.warm.1, .int .i64 o.warm.2, .int .i64 o.cool.1, .int .i64 o.cool.2] 50)) w.heap.size o :=
  have h := fun k v e => (Cel.new w #[.int .i64 o.lo, .int .i64 o.hi, .int .i64 o.warm.1, .int .i64 o.warm.2, .int .i64 o.cool.1, .int .i64 o.cool.2] 50 k v e).1
  ⟨⟨h 0 _ rfl, h 1 _ rfl, h 2 _ rfl⟩, h 3 _ rfl, h 4 _ rfl, h 5 _ rfl⟩

set_option maxHeartbeats 400000 in
theorem minuteOf_any (o : Ov) (w : World) :
    Calls Try.prog 98 #[o.val] w fun e w' => e = .returned (.func (.func 102) #[] #[.pointer (some ⟨w.heap.size, 0, none⟩)]) ∧ w' = w.alloc (.cells #[.int .i64 o.lo, .int .i64 o.hi, .int .i64 o.warm.1, .int .i64 o.warm.2, .int .i64 o.cool.1, .int .i64 o.cool.2] 50) := by
  go_enter Try.func98, Try.ntmps98
  go_wp2
  go_ret
  exact ⟨rfl, rfl⟩

/-- The closure over the ends of a minute, and whether it heats. -/
def MinuteV (w : World) (lo hi : Int) (h : Bool) (e : Ending) (w' : World) : Prop :=
  ∃ bl bh bt, e = .returned (.func (.func 103) #[] #[.pointer (some ⟨bl, 0, none⟩), .pointer (some ⟨bh, 0, none⟩), .pointer (some ⟨bt, 0, none⟩)]) ∧ (Boxed w' bl 3 (.int .i64 lo) ∧ Boxed w' bh 3 (.int .i64 hi) ∧ Boxed w' bt 4 (.bool h)) ∧
    (w.heap.size ≤ bl ∧ w.heap.size ≤ bh ∧ w.heap.size ≤ bt) ∧ Below w.heap.size w w'

theorem Boxed.call2 {W : World} {b t : Nat} {v : Value} (h : Boxed W b t v) (o1 o2 : Obj) : Boxed ((W.alloc o1).alloc o2) b t v := (h.alloc o1).alloc o2
theorem minute_fin {w W : World} {u' v' x : Value} (h1 : Boxed W (w.heap.size + 2) 3 u') (h2 : Boxed W (w.heap.size + 2 + 1) 3 v') (h3 : Boxed W (w.heap.size + 1) 4 x) (hb : Below w.heap.size w W) (u v : Value) :
    (Boxed ((W.setCell ⟨w.heap.size + 2, 0, none⟩ u).setCell ⟨w.heap.size + 2 + 1, 0, none⟩ v).drew (w.heap.size + 2) 3 u ∧ Boxed ((W.setCell ⟨w.heap.size + 2, 0, none⟩ u).setCell ⟨w.heap.size + 2 + 1, 0, none⟩ v).drew (w.heap.size + 2 + 1) 3 v ∧ Boxed ((W.setCell ⟨w.heap.size + 2, 0, none⟩ u).setCell ⟨w.heap.size + 2 + 1, 0, none⟩ v).drew (w.heap.size + 1) 4 x) ∧
    (w.heap.size ≤ w.heap.size + 2 ∧ w.heap.size ≤ w.heap.size + 2 + 1 ∧ w.heap.size ≤ w.heap.size + 1) ∧ Below w.heap.size w ((W.setCell ⟨w.heap.size + 2, 0, none⟩ u).setCell ⟨w.heap.size + 2 + 1, 0, none⟩ v).drew :=
  ⟨⟨(h1.set u).other (by omega) v, (h2.other (by omega) u).set v, (h3.other (by omega) u).other (by omega) v⟩, ⟨by omega, by omega, by omega⟩, ((hb.setCell (p := ⟨w.heap.size + 2, 0, none⟩) (by simp) u).setCell (p := ⟨w.heap.size + 2 + 1, 0, none⟩) (by simp; omega) v).drew⟩
theorem minute_fin' {w W : World} {u' v' x : Value} (h2 : Boxed W (w.heap.size + 2) 3 v') (h1 : Boxed W (w.heap.size + 2 + 1) 3 u') (h3 : Boxed W (w.heap.size + 1) 4 x) (hb : Below w.heap.size w W) (u v : Value) :
    (Boxed ((W.setCell ⟨w.heap.size + 2 + 1, 0, none⟩ u).setCell ⟨w.heap.size + 2, 0, none⟩ v).drew (w.heap.size + 2 + 1) 3 u ∧ Boxed ((W.setCell ⟨w.heap.size + 2 + 1, 0, none⟩ u).setCell ⟨w.heap.size + 2, 0, none⟩ v).drew (w.heap.size + 2) 3 v ∧ Boxed ((W.setCell ⟨w.heap.size + 2 + 1, 0, none⟩ u).setCell ⟨w.heap.size + 2, 0, none⟩ v).drew (w.heap.size + 1) 4 x) ∧
    (w.heap.size ≤ w.heap.size + 2 + 1 ∧ w.heap.size ≤ w.heap.size + 2 ∧ w.heap.size ≤ w.heap.size + 1) ∧ Below w.heap.size w ((W.setCell ⟨w.heap.size + 2 + 1, 0, none⟩ u).setCell ⟨w.heap.size + 2, 0, none⟩ v).drew :=
  ⟨⟨(h1.set u).other (by omega) v, (h2.other (by omega) u).set v, (h3.other (by omega) u).other (by omega) v⟩, ⟨by omega, by omega, by omega⟩, ((hb.setCell (p := ⟨w.heap.size + 2 + 1, 0, none⟩) (by simp; omega) u).setCell (p := ⟨w.heap.size + 2, 0, none⟩) (by simp) v).drew⟩
set_option maxRecDepth 100000 in
set_option maxHeartbeats 4000000 in
theorem minute1_a (t lo hi wl wh cl ch : Int) (c : Bool) (b : Nat) (w : World) (hb : b < w.heap.size) (k0 : w.cell? ⟨b, 0, none⟩ = some (.int .i64 lo)) (k1 : w.cell? ⟨b, 1, none⟩ = some (.int .i64 hi)) (k2 : w.cell? ⟨b, 2, none⟩ = some (.int .i64 wl)) (k3 : w.cell? ⟨b, 3, none⟩ = some (.int .i64 wh)) (k4 : w.cell? ⟨b, 4, none⟩ = some (.int .i64 cl)) (k5 : w.cell? ⟨b, 5, none⟩ = some (.int .i64 ch))
    (b1 : -2000 ≤ t ∧ t ≤ 2000) (b2 : (0 ≤ wl ∧ wl ≤ 100) ∧ (0 ≤ wh ∧ wh ≤ 100) ∧ (0 ≤ cl ∧ cl ≤ 100) ∧ 0 ≤ ch ∧ ch ≤ 100) (hh : t < lo) :
    Calls Try.prog 102 #[pv t c, .pointer (some ⟨b, 0, none⟩)] w (MinuteV w (t + wl) (t + wh) true) := by
  have w1 : IntKind.i64.wrap (t + wl) = t + wl := IntWalk.i64_in _ (by omega)
  have w2 : IntKind.i64.wrap (t + wh) = t + wh := IntWalk.i64_in _ (by omega)
  have w3 : IntKind.i64.wrap (t - ch) = t - ch := IntWalk.i64_in _ (by omega)
  have w4 : IntKind.i64.wrap (t - cl) = t - cl := IntWalk.i64_in _ (by omega)
  have hn : w.heap.size ≠ b := by omega
  have hx0 := (Cel.new w #[.int .i64 t, .bool c] 116 0 _ rfl).alloc (.cells #[.bool true] 4)
  have hx1 := Boxed.new (w.alloc (.cells #[.int .i64 t, .bool c] 116)) 4 (.bool true)
  rw [World.size_alloc] at hx1
  have hb1 : Below w.heap.size w ((w.alloc (.cells #[.int .i64 t, .bool c] 116)).alloc (.cells #[.bool true] 4)) := b_alloc (b_alloc (Below.refl _ _) _) _
  have hsz : ((w.alloc (.cells #[.int .i64 t, .bool c] 116)).alloc (.cells #[.bool true] 4)).heap.size = w.heap.size + 2 := by simp
  have j0 := (hb1.cell (p := ⟨b, 0, none⟩) hb).trans k0
  have j1 := (hb1.cell (p := ⟨b, 1, none⟩) hb).trans k1
  have j2 := (hb1.cell (p := ⟨b, 2, none⟩) hb).trans k2
  have j3 := (hb1.cell (p := ⟨b, 3, none⟩) hb).trans k3
  have j4 := (hb1.cell (p := ⟨b, 4, none⟩) hb).trans k4
  have j5 := (hb1.cell (p := ⟨b, 5, none⟩) hb).trans k5
  have HX0 := hid hx0
  have HX1 := hid hx1
  have HB1 := hid hb1
  have HSZ := hid hsz
  have HJ := hid (And.intro j0 (And.intro j1 (And.intro j2 (And.intro j3 (And.intro j4 j5)))))
  clear hx0 hx1 hb1 hsz j0 j1 j2 j3 j4 j5
  go_enter Try.func102, Try.ntmps102
  go_wp2
  generalize (w.alloc (.cells #[.int .i64 t, .bool c] 116)).alloc (.cells #[.bool true] 4) = W1 at *
  obtain ⟨q0, q1⟩ := HX0.out
  obtain ⟨j0, j1, j2, j3, j4, j5⟩ := HJ.out
  have hsz := HSZ.out
  have z1 := HX1.out.cell
  have hb2 : b < W1.heap.size := by omega
  have hb3 : w.heap.size < W1.heap.size := by omega
  have hb4 : w.heap.size + 1 < W1.heap.size := by omega
  have hb5 : b ≠ W1.heap.size := by omega
  have hb6 : b ≠ W1.heap.size + 1 := by omega
  have hb7 : b < W1.heap.size + 1 := by omega
  have hb8 : w.heap.size < W1.heap.size + 1 := by omega
  have m0 := fun u v => cell_later (b_alloc (b_alloc (Below.refl W1.heap.size W1) (.cells #[u] 3)) (.cells #[v] 3)) q0
  have m4 := fun u v => cell_later (b_alloc (b_alloc (Below.refl W1.heap.size W1) (.cells #[u] 3)) (.cells #[v] 3)) j4
  have m5 := fun u v => cell_later (b_alloc (b_alloc (Below.refl W1.heap.size W1) (.cells #[u] 3)) (.cells #[v] 3)) j5
  have l0 := fun u => cell_later (b_alloc (Below.refl W1.heap.size W1) (.cells #[u] 3)) q0
  have l4 := fun u => cell_later (b_alloc (Below.refl W1.heap.size W1) (.cells #[u] 3)) j4
  have l5 := fun u => cell_later (b_alloc (Below.refl W1.heap.size W1) (.cells #[u] 3)) j5
  clear k0 k1 k2 k3 k4 k5
  have hM : ∀ (u v : Value) (W2 : World), W2 = ((W1.alloc (.cells #[u] 3)).alloc (.cells #[v] 3)).drew → (W2.cell? ⟨w.heap.size, 0, none⟩ = some (.int .i64 t) ∧ W2.cell? ⟨b, 2, none⟩ = some (.int .i64 wl) ∧ W2.cell? ⟨b, 3, none⟩ = some (.int .i64 wh)) ∧
      (Boxed W2 (w.heap.size + 2) 3 u ∧ Boxed W2 (w.heap.size + 2 + 1) 3 v ∧ Boxed W2 (w.heap.size + 1) 4 (.bool true)) ∧ Below w.heap.size w W2 := fun u v W2 e => by
    subst e
    have y0 := (Boxed.new W1 3 u).alloc (.cells #[v] 3)
    have y1 := Boxed.new (W1.alloc (.cells #[u] 3)) 3 v
    rw [World.size_alloc] at y1
    rw [hsz] at y0 y1
    exact ⟨⟨cell_later (b_alloc (b_alloc (Below.refl W1.heap.size W1) _) _).drew q0, cell_later (b_alloc (b_alloc (Below.refl W1.heap.size W1) _) _).drew j2, cell_later (b_alloc (b_alloc (Below.refl W1.heap.size W1) _) _).drew j3⟩, ⟨y0, y1, (HX1.out.alloc _).alloc _⟩, (b_alloc (b_alloc HB1.out _) _).drew⟩
  have HM := hid hM
  clear hM
  go_region
  · obtain ⟨hM1, ⟨hM2, hM3, hM4⟩, hM5⟩ := HM.out (.int .i64 (t - ch)) (.int .i64 (t - cl)) _ rfl
    generalize ((W1.alloc (.cells #[.int .i64 (t - ch)] 3)).alloc (.cells #[.int .i64 (t - cl)] 3)).drew = W2 at *
    clear m0 m4 m5 l0 l4 l5 q0 q1 j0 j1 j2 j3 j4 j5 z1
    obtain ⟨q0, q2, q3⟩ := hM1
    have f2 := hM2.cell
    have f3 := hM3.cell
    have f4 := hM4.cell
    have g2 := hM2.frozen
    have g3 := hM3.frozen
    have HF := hid (minute_fin hM2 hM3 hM4 hM5 (.int .i64 (t + wl)) (.int .i64 (t + wh)))
    go_wp2
    go_region
    go_wp2
    go_ret
    exact ⟨_, _, _, rfl, HF.out⟩
  · obtain ⟨hM1, ⟨hM2, hM3, hM4⟩, hM5⟩ := HM.out (.int .i64 (t - cl)) (.int .i64 (t - ch)) _ rfl
    generalize ((W1.alloc (.cells #[.int .i64 (t - cl)] 3)).alloc (.cells #[.int .i64 (t - ch)] 3)).drew = W2 at *
    clear m0 m4 m5 l0 l4 l5 q0 q1 j0 j1 j2 j3 j4 j5 z1
    obtain ⟨q0, q2, q3⟩ := hM1
    have f2 := hM2.cell
    have f3 := hM3.cell
    have f4 := hM4.cell
    have g2 := hM2.frozen
    have g3 := hM3.frozen
    have HF := hid (minute_fin' hM2 hM3 hM4 hM5 (.int .i64 (t + wl)) (.int .i64 (t + wh)))
    go_wp2
    go_region
    go_wp2
    go_ret
    exact ⟨_, _, _, rfl, HF.out⟩
set_option maxRecDepth 100000 in
set_option maxHeartbeats 4000000 in
theorem minute1_b (t lo hi wl wh cl ch : Int) (b : Nat) (w : World) (hb : b < w.heap.size) (k0 : w.cell? ⟨b, 0, none⟩ = some (.int .i64 lo)) (k1 : w.cell? ⟨b, 1, none⟩ = some (.int .i64 hi)) (k2 : w.cell? ⟨b, 2, none⟩ = some (.int .i64 wl)) (k3 : w.cell? ⟨b, 3, none⟩ = some (.int .i64 wh)) (k4 : w.cell? ⟨b, 4, none⟩ = some (.int .i64 cl)) (k5 : w.cell? ⟨b, 5, none⟩ = some (.int .i64 ch))
    (b1 : -2000 ≤ t ∧ t ≤ 2000) (b2 : (0 ≤ wl ∧ wl ≤ 100) ∧ (0 ≤ wh ∧ wh ≤ 100) ∧ (0 ≤ cl ∧ cl ≤ 100) ∧ 0 ≤ ch ∧ ch ≤ 100) (hh : ¬ t < lo) (hi' : t ≤ hi) :
    Calls Try.prog 102 #[pv t true, .pointer (some ⟨b, 0, none⟩)] w (MinuteV w (t + wl) (t + wh) true) := by
  have w1 : IntKind.i64.wrap (t + wl) = t + wl := IntWalk.i64_in _ (by omega)
  have w2 : IntKind.i64.wrap (t + wh) = t + wh := IntWalk.i64_in _ (by omega)
  have w3 : IntKind.i64.wrap (t - ch) = t - ch := IntWalk.i64_in _ (by omega)
  have w4 : IntKind.i64.wrap (t - cl) = t - cl := IntWalk.i64_in _ (by omega)
  have hn : w.heap.size ≠ b := by omega
  have hx0 := (Cel.new w #[.int .i64 t, .bool true] 116 0 _ rfl).alloc (.cells #[.bool true] 4)
  have hx1 := Boxed.new (w.alloc (.cells #[.int .i64 t, .bool true] 116)) 4 (.bool true)
  rw [World.size_alloc] at hx1
  have hb1 : Below w.heap.size w ((w.alloc (.cells #[.int .i64 t, .bool true] 116)).alloc (.cells #[.bool true] 4)) := b_alloc (b_alloc (Below.refl _ _) _) _
  have hsz : ((w.alloc (.cells #[.int .i64 t, .bool true] 116)).alloc (.cells #[.bool true] 4)).heap.size = w.heap.size + 2 := by simp
  have j0 := (hb1.cell (p := ⟨b, 0, none⟩) hb).trans k0
  have j1 := (hb1.cell (p := ⟨b, 1, none⟩) hb).trans k1
  have j2 := (hb1.cell (p := ⟨b, 2, none⟩) hb).trans k2
  have j3 := (hb1.cell (p := ⟨b, 3, none⟩) hb).trans k3
  have j4 := (hb1.cell (p := ⟨b, 4, none⟩) hb).trans k4
  have j5 := (hb1.cell (p := ⟨b, 5, none⟩) hb).trans k5
  have HX0 := hid hx0
  have HX1 := hid hx1
  have HB1 := hid hb1
  have HSZ := hid hsz
  have HJ := hid (And.intro j0 (And.intro j1 (And.intro j2 (And.intro j3 (And.intro j4 j5)))))
  clear hx0 hx1 hb1 hsz j0 j1 j2 j3 j4 j5
  go_enter Try.func102, Try.ntmps102
  go_wp2
  generalize (w.alloc (.cells #[.int .i64 t, .bool true] 116)).alloc (.cells #[.bool true] 4) = W1 at *
  obtain ⟨q0, q1⟩ := HX0.out
  obtain ⟨j0, j1, j2, j3, j4, j5⟩ := HJ.out
  have hsz := HSZ.out
  have z1 := HX1.out.cell
  have hb2 : b < W1.heap.size := by omega
  have hb3 : w.heap.size < W1.heap.size := by omega
  have hb4 : w.heap.size + 1 < W1.heap.size := by omega
  have hb5 : b ≠ W1.heap.size := by omega
  have hb6 : b ≠ W1.heap.size + 1 := by omega
  have hb7 : b < W1.heap.size + 1 := by omega
  have hb8 : w.heap.size < W1.heap.size + 1 := by omega
  have m0 := fun u v => cell_later (b_alloc (b_alloc (Below.refl W1.heap.size W1) (.cells #[u] 3)) (.cells #[v] 3)) q0
  have m4 := fun u v => cell_later (b_alloc (b_alloc (Below.refl W1.heap.size W1) (.cells #[u] 3)) (.cells #[v] 3)) j4
  have m5 := fun u v => cell_later (b_alloc (b_alloc (Below.refl W1.heap.size W1) (.cells #[u] 3)) (.cells #[v] 3)) j5
  have l0 := fun u => cell_later (b_alloc (Below.refl W1.heap.size W1) (.cells #[u] 3)) q0
  have l4 := fun u => cell_later (b_alloc (Below.refl W1.heap.size W1) (.cells #[u] 3)) j4
  have l5 := fun u => cell_later (b_alloc (Below.refl W1.heap.size W1) (.cells #[u] 3)) j5
  clear k0 k1 k2 k3 k4 k5
  have hM : ∀ (u v : Value) (W2 : World), W2 = ((W1.alloc (.cells #[u] 3)).alloc (.cells #[v] 3)).drew → (W2.cell? ⟨w.heap.size, 0, none⟩ = some (.int .i64 t) ∧ W2.cell? ⟨b, 2, none⟩ = some (.int .i64 wl) ∧ W2.cell? ⟨b, 3, none⟩ = some (.int .i64 wh)) ∧
      (Boxed W2 (w.heap.size + 2) 3 u ∧ Boxed W2 (w.heap.size + 2 + 1) 3 v ∧ Boxed W2 (w.heap.size + 1) 4 (.bool true)) ∧ Below w.heap.size w W2 := fun u v W2 e => by
    subst e
    have y0 := (Boxed.new W1 3 u).alloc (.cells #[v] 3)
    have y1 := Boxed.new (W1.alloc (.cells #[u] 3)) 3 v
    rw [World.size_alloc] at y1
    rw [hsz] at y0 y1
    exact ⟨⟨cell_later (b_alloc (b_alloc (Below.refl W1.heap.size W1) _) _).drew q0, cell_later (b_alloc (b_alloc (Below.refl W1.heap.size W1) _) _).drew j2, cell_later (b_alloc (b_alloc (Below.refl W1.heap.size W1) _) _).drew j3⟩, ⟨y0, y1, (HX1.out.alloc _).alloc _⟩, (b_alloc (b_alloc HB1.out _) _).drew⟩
  have HM := hid hM
  clear hM
  go_region
  · obtain ⟨hM1, ⟨hM2, hM3, hM4⟩, hM5⟩ := HM.out (.int .i64 (t - ch)) (.int .i64 (t - cl)) _ rfl
    generalize ((W1.alloc (.cells #[.int .i64 (t - ch)] 3)).alloc (.cells #[.int .i64 (t - cl)] 3)).drew = W2 at *
    clear m0 m4 m5 l0 l4 l5 q0 q1 j0 j1 j2 j3 j4 j5 z1
    obtain ⟨q0, q2, q3⟩ := hM1
    have f2 := hM2.cell
    have f3 := hM3.cell
    have f4 := hM4.cell
    have g2 := hM2.frozen
    have g3 := hM3.frozen
    have HF := hid (minute_fin hM2 hM3 hM4 hM5 (.int .i64 (t + wl)) (.int .i64 (t + wh)))
    go_wp2
    go_region
    go_wp2
    go_ret
    exact ⟨_, _, _, rfl, HF.out⟩
  · obtain ⟨hM1, ⟨hM2, hM3, hM4⟩, hM5⟩ := HM.out (.int .i64 (t - cl)) (.int .i64 (t - ch)) _ rfl
    generalize ((W1.alloc (.cells #[.int .i64 (t - cl)] 3)).alloc (.cells #[.int .i64 (t - ch)] 3)).drew = W2 at *
    clear m0 m4 m5 l0 l4 l5 q0 q1 j0 j1 j2 j3 j4 j5 z1
    obtain ⟨q0, q2, q3⟩ := hM1
    have f2 := hM2.cell
    have f3 := hM3.cell
    have f4 := hM4.cell
    have g2 := hM2.frozen
    have g3 := hM3.frozen
    have HF := hid (minute_fin' hM2 hM3 hM4 hM5 (.int .i64 (t + wl)) (.int .i64 (t + wh)))
    go_wp2
    go_region
    go_wp2
    go_ret
    exact ⟨_, _, _, rfl, HF.out⟩
set_option maxRecDepth 100000 in
set_option maxHeartbeats 4000000 in
theorem minute1_c (t lo hi wl wh cl ch : Int) (b : Nat) (w : World) (hb : b < w.heap.size) (k0 : w.cell? ⟨b, 0, none⟩ = some (.int .i64 lo)) (k1 : w.cell? ⟨b, 1, none⟩ = some (.int .i64 hi)) (k2 : w.cell? ⟨b, 2, none⟩ = some (.int .i64 wl)) (k3 : w.cell? ⟨b, 3, none⟩ = some (.int .i64 wh)) (k4 : w.cell? ⟨b, 4, none⟩ = some (.int .i64 cl)) (k5 : w.cell? ⟨b, 5, none⟩ = some (.int .i64 ch))
    (b1 : -2000 ≤ t ∧ t ≤ 2000) (b2 : (0 ≤ wl ∧ wl ≤ 100) ∧ (0 ≤ wh ∧ wh ≤ 100) ∧ (0 ≤ cl ∧ cl ≤ 100) ∧ 0 ≤ ch ∧ ch ≤ 100) (hh : ¬ t < lo) (hi' : t ≤ hi) :
    Calls Try.prog 102 #[pv t false, .pointer (some ⟨b, 0, none⟩)] w (MinuteV w (t - ch) (t - cl) false) := by
  have w1 : IntKind.i64.wrap (t + wl) = t + wl := IntWalk.i64_in _ (by omega)
  have w2 : IntKind.i64.wrap (t + wh) = t + wh := IntWalk.i64_in _ (by omega)
  have w3 : IntKind.i64.wrap (t - ch) = t - ch := IntWalk.i64_in _ (by omega)
  have w4 : IntKind.i64.wrap (t - cl) = t - cl := IntWalk.i64_in _ (by omega)
  have hn : w.heap.size ≠ b := by omega
  have hx0 := (Cel.new w #[.int .i64 t, .bool false] 116 0 _ rfl).alloc (.cells #[.bool false] 4)
  have hx1 := Boxed.new (w.alloc (.cells #[.int .i64 t, .bool false] 116)) 4 (.bool false)
  rw [World.size_alloc] at hx1
  have hb1 : Below w.heap.size w ((w.alloc (.cells #[.int .i64 t, .bool false] 116)).alloc (.cells #[.bool false] 4)) := b_alloc (b_alloc (Below.refl _ _) _) _
  have hsz : ((w.alloc (.cells #[.int .i64 t, .bool false] 116)).alloc (.cells #[.bool false] 4)).heap.size = w.heap.size + 2 := by simp
  have j0 := (hb1.cell (p := ⟨b, 0, none⟩) hb).trans k0
  have j1 := (hb1.cell (p := ⟨b, 1, none⟩) hb).trans k1
  have j2 := (hb1.cell (p := ⟨b, 2, none⟩) hb).trans k2
  have j3 := (hb1.cell (p := ⟨b, 3, none⟩) hb).trans k3
  have j4 := (hb1.cell (p := ⟨b, 4, none⟩) hb).trans k4
  have j5 := (hb1.cell (p := ⟨b, 5, none⟩) hb).trans k5
  have HX0 := hid hx0
  have HX1 := hid hx1
  have HB1 := hid hb1
  have HSZ := hid hsz
  have HJ := hid (And.intro j0 (And.intro j1 (And.intro j2 (And.intro j3 (And.intro j4 j5)))))
  clear hx0 hx1 hb1 hsz j0 j1 j2 j3 j4 j5
  go_enter Try.func102, Try.ntmps102
  go_wp2
  generalize (w.alloc (.cells #[.int .i64 t, .bool false] 116)).alloc (.cells #[.bool false] 4) = W1 at *
  obtain ⟨q0, q1⟩ := HX0.out
  obtain ⟨j0, j1, j2, j3, j4, j5⟩ := HJ.out
  have hsz := HSZ.out
  have z1 := HX1.out.cell
  have hb2 : b < W1.heap.size := by omega
  have hb3 : w.heap.size < W1.heap.size := by omega
  have hb4 : w.heap.size + 1 < W1.heap.size := by omega
  have hb5 : b ≠ W1.heap.size := by omega
  have hb6 : b ≠ W1.heap.size + 1 := by omega
  have hb7 : b < W1.heap.size + 1 := by omega
  have hb8 : w.heap.size < W1.heap.size + 1 := by omega
  have m0 := fun u v => cell_later (b_alloc (b_alloc (Below.refl W1.heap.size W1) (.cells #[u] 3)) (.cells #[v] 3)) q0
  have m4 := fun u v => cell_later (b_alloc (b_alloc (Below.refl W1.heap.size W1) (.cells #[u] 3)) (.cells #[v] 3)) j4
  have m5 := fun u v => cell_later (b_alloc (b_alloc (Below.refl W1.heap.size W1) (.cells #[u] 3)) (.cells #[v] 3)) j5
  have l0 := fun u => cell_later (b_alloc (Below.refl W1.heap.size W1) (.cells #[u] 3)) q0
  have l4 := fun u => cell_later (b_alloc (Below.refl W1.heap.size W1) (.cells #[u] 3)) j4
  have l5 := fun u => cell_later (b_alloc (Below.refl W1.heap.size W1) (.cells #[u] 3)) j5
  clear k0 k1 k2 k3 k4 k5
  have hM : ∀ (u v : Value) (W2 : World), W2 = ((W1.alloc (.cells #[u] 3)).alloc (.cells #[v] 3)).drew → (W2.cell? ⟨w.heap.size, 0, none⟩ = some (.int .i64 t) ∧ W2.cell? ⟨b, 2, none⟩ = some (.int .i64 wl) ∧ W2.cell? ⟨b, 3, none⟩ = some (.int .i64 wh)) ∧
      (Boxed W2 (w.heap.size + 2) 3 u ∧ Boxed W2 (w.heap.size + 2 + 1) 3 v ∧ Boxed W2 (w.heap.size + 1) 4 (.bool false)) ∧ Below w.heap.size w W2 := fun u v W2 e => by
    subst e
    have y0 := (Boxed.new W1 3 u).alloc (.cells #[v] 3)
    have y1 := Boxed.new (W1.alloc (.cells #[u] 3)) 3 v
    rw [World.size_alloc] at y1
    rw [hsz] at y0 y1
    exact ⟨⟨cell_later (b_alloc (b_alloc (Below.refl W1.heap.size W1) _) _).drew q0, cell_later (b_alloc (b_alloc (Below.refl W1.heap.size W1) _) _).drew j2, cell_later (b_alloc (b_alloc (Below.refl W1.heap.size W1) _) _).drew j3⟩, ⟨y0, y1, (HX1.out.alloc _).alloc _⟩, (b_alloc (b_alloc HB1.out _) _).drew⟩
  have HM := hid hM
  clear hM
  go_region
  · obtain ⟨hM1, ⟨hM2, hM3, hM4⟩, hM5⟩ := HM.out (.int .i64 (t - ch)) (.int .i64 (t - cl)) _ rfl
    generalize ((W1.alloc (.cells #[.int .i64 (t - ch)] 3)).alloc (.cells #[.int .i64 (t - cl)] 3)).drew = W2 at *
    clear m0 m4 m5 l0 l4 l5 q0 q1 j0 j1 j2 j3 j4 j5 z1
    obtain ⟨q0, q2, q3⟩ := hM1
    have f2 := hM2.cell
    have f3 := hM3.cell
    have f4 := hM4.cell
    have g2 := hM2.frozen
    have g3 := hM3.frozen
    go_wp2
    go_ret
    exact ⟨_, _, _, rfl, ⟨hM2, hM3, hM4⟩, ⟨by omega, by omega, by omega⟩, hM5⟩
  · obtain ⟨hM1, ⟨hM2, hM3, hM4⟩, hM5⟩ := HM.out (.int .i64 (t - cl)) (.int .i64 (t - ch)) _ rfl
    generalize ((W1.alloc (.cells #[.int .i64 (t - cl)] 3)).alloc (.cells #[.int .i64 (t - ch)] 3)).drew = W2 at *
    clear m0 m4 m5 l0 l4 l5 q0 q1 j0 j1 j2 j3 j4 j5 z1
    obtain ⟨q0, q2, q3⟩ := hM1
    have f2 := hM2.cell
    have f3 := hM3.cell
    have f4 := hM4.cell
    have g2 := hM2.frozen
    have g3 := hM3.frozen
    go_wp2
    go_ret
    exact ⟨_, _, _, rfl, ⟨hM3, hM2, hM4⟩, ⟨by omega, by omega, by omega⟩, hM5⟩
set_option maxRecDepth 100000 in
set_option maxHeartbeats 4000000 in
theorem minute1_d (t lo hi wl wh cl ch : Int) (c : Bool) (b : Nat) (w : World) (hb : b < w.heap.size) (k0 : w.cell? ⟨b, 0, none⟩ = some (.int .i64 lo)) (k1 : w.cell? ⟨b, 1, none⟩ = some (.int .i64 hi)) (k2 : w.cell? ⟨b, 2, none⟩ = some (.int .i64 wl)) (k3 : w.cell? ⟨b, 3, none⟩ = some (.int .i64 wh)) (k4 : w.cell? ⟨b, 4, none⟩ = some (.int .i64 cl)) (k5 : w.cell? ⟨b, 5, none⟩ = some (.int .i64 ch))
    (b1 : -2000 ≤ t ∧ t ≤ 2000) (b2 : (0 ≤ wl ∧ wl ≤ 100) ∧ (0 ≤ wh ∧ wh ≤ 100) ∧ (0 ≤ cl ∧ cl ≤ 100) ∧ 0 ≤ ch ∧ ch ≤ 100) (hh : ¬ t < lo) (hi' : ¬ t ≤ hi) :
    Calls Try.prog 102 #[pv t c, .pointer (some ⟨b, 0, none⟩)] w (MinuteV w (t - ch) (t - cl) false) := by
  have w1 : IntKind.i64.wrap (t + wl) = t + wl := IntWalk.i64_in _ (by omega)
  have w2 : IntKind.i64.wrap (t + wh) = t + wh := IntWalk.i64_in _ (by omega)
  have w3 : IntKind.i64.wrap (t - ch) = t - ch := IntWalk.i64_in _ (by omega)
  have w4 : IntKind.i64.wrap (t - cl) = t - cl := IntWalk.i64_in _ (by omega)
  have hn : w.heap.size ≠ b := by omega
  have hx0 := (Cel.new w #[.int .i64 t, .bool c] 116 0 _ rfl).alloc (.cells #[.bool false] 4)
  have hx1 := Boxed.new (w.alloc (.cells #[.int .i64 t, .bool c] 116)) 4 (.bool false)
  rw [World.size_alloc] at hx1
  have hb1 : Below w.heap.size w ((w.alloc (.cells #[.int .i64 t, .bool c] 116)).alloc (.cells #[.bool false] 4)) := b_alloc (b_alloc (Below.refl _ _) _) _
  have hsz : ((w.alloc (.cells #[.int .i64 t, .bool c] 116)).alloc (.cells #[.bool false] 4)).heap.size = w.heap.size + 2 := by simp
  have j0 := (hb1.cell (p := ⟨b, 0, none⟩) hb).trans k0
  have j1 := (hb1.cell (p := ⟨b, 1, none⟩) hb).trans k1
  have j2 := (hb1.cell (p := ⟨b, 2, none⟩) hb).trans k2
  have j3 := (hb1.cell (p := ⟨b, 3, none⟩) hb).trans k3
  have j4 := (hb1.cell (p := ⟨b, 4, none⟩) hb).trans k4
  have j5 := (hb1.cell (p := ⟨b, 5, none⟩) hb).trans k5
  have HX0 := hid hx0
  have HX1 := hid hx1
  have HB1 := hid hb1
  have HSZ := hid hsz
  have HJ := hid (And.intro j0 (And.intro j1 (And.intro j2 (And.intro j3 (And.intro j4 j5)))))
  clear hx0 hx1 hb1 hsz j0 j1 j2 j3 j4 j5
  go_enter Try.func102, Try.ntmps102
  go_wp2
  generalize (w.alloc (.cells #[.int .i64 t, .bool c] 116)).alloc (.cells #[.bool false] 4) = W1 at *
  obtain ⟨q0, q1⟩ := HX0.out
  obtain ⟨j0, j1, j2, j3, j4, j5⟩ := HJ.out
  have hsz := HSZ.out
  have z1 := HX1.out.cell
  have hb2 : b < W1.heap.size := by omega
  have hb3 : w.heap.size < W1.heap.size := by omega
  have hb4 : w.heap.size + 1 < W1.heap.size := by omega
  have hb5 : b ≠ W1.heap.size := by omega
  have hb6 : b ≠ W1.heap.size + 1 := by omega
  have hb7 : b < W1.heap.size + 1 := by omega
  have hb8 : w.heap.size < W1.heap.size + 1 := by omega
  have m0 := fun u v => cell_later (b_alloc (b_alloc (Below.refl W1.heap.size W1) (.cells #[u] 3)) (.cells #[v] 3)) q0
  have m4 := fun u v => cell_later (b_alloc (b_alloc (Below.refl W1.heap.size W1) (.cells #[u] 3)) (.cells #[v] 3)) j4
  have m5 := fun u v => cell_later (b_alloc (b_alloc (Below.refl W1.heap.size W1) (.cells #[u] 3)) (.cells #[v] 3)) j5
  have l0 := fun u => cell_later (b_alloc (Below.refl W1.heap.size W1) (.cells #[u] 3)) q0
  have l4 := fun u => cell_later (b_alloc (Below.refl W1.heap.size W1) (.cells #[u] 3)) j4
  have l5 := fun u => cell_later (b_alloc (Below.refl W1.heap.size W1) (.cells #[u] 3)) j5
  clear k0 k1 k2 k3 k4 k5
  have hM : ∀ (u v : Value) (W2 : World), W2 = ((W1.alloc (.cells #[u] 3)).alloc (.cells #[v] 3)).drew → (W2.cell? ⟨w.heap.size, 0, none⟩ = some (.int .i64 t) ∧ W2.cell? ⟨b, 2, none⟩ = some (.int .i64 wl) ∧ W2.cell? ⟨b, 3, none⟩ = some (.int .i64 wh)) ∧
      (Boxed W2 (w.heap.size + 2) 3 u ∧ Boxed W2 (w.heap.size + 2 + 1) 3 v ∧ Boxed W2 (w.heap.size + 1) 4 (.bool false)) ∧ Below w.heap.size w W2 := fun u v W2 e => by
    subst e
    have y0 := (Boxed.new W1 3 u).alloc (.cells #[v] 3)
    have y1 := Boxed.new (W1.alloc (.cells #[u] 3)) 3 v
    rw [World.size_alloc] at y1
    rw [hsz] at y0 y1
    exact ⟨⟨cell_later (b_alloc (b_alloc (Below.refl W1.heap.size W1) _) _).drew q0, cell_later (b_alloc (b_alloc (Below.refl W1.heap.size W1) _) _).drew j2, cell_later (b_alloc (b_alloc (Below.refl W1.heap.size W1) _) _).drew j3⟩, ⟨y0, y1, (HX1.out.alloc _).alloc _⟩, (b_alloc (b_alloc HB1.out _) _).drew⟩
  have HM := hid hM
  clear hM
  go_region
  · obtain ⟨hM1, ⟨hM2, hM3, hM4⟩, hM5⟩ := HM.out (.int .i64 (t - ch)) (.int .i64 (t - cl)) _ rfl
    generalize ((W1.alloc (.cells #[.int .i64 (t - ch)] 3)).alloc (.cells #[.int .i64 (t - cl)] 3)).drew = W2 at *
    clear m0 m4 m5 l0 l4 l5 q0 q1 j0 j1 j2 j3 j4 j5 z1
    obtain ⟨q0, q2, q3⟩ := hM1
    have f2 := hM2.cell
    have f3 := hM3.cell
    have f4 := hM4.cell
    have g2 := hM2.frozen
    have g3 := hM3.frozen
    go_wp2
    go_ret
    exact ⟨_, _, _, rfl, ⟨hM2, hM3, hM4⟩, ⟨by omega, by omega, by omega⟩, hM5⟩
  · obtain ⟨hM1, ⟨hM2, hM3, hM4⟩, hM5⟩ := HM.out (.int .i64 (t - cl)) (.int .i64 (t - ch)) _ rfl
    generalize ((W1.alloc (.cells #[.int .i64 (t - cl)] 3)).alloc (.cells #[.int .i64 (t - ch)] 3)).drew = W2 at *
    clear m0 m4 m5 l0 l4 l5 q0 q1 j0 j1 j2 j3 j4 j5 z1
    obtain ⟨q0, q2, q3⟩ := hM1
    have f2 := hM2.cell
    have f3 := hM3.cell
    have f4 := hM4.cell
    have g2 := hM2.frozen
    have g3 := hM3.frozen
    go_wp2
    go_ret
    exact ⟨_, _, _, rfl, ⟨hM3, hM2, hM4⟩, ⟨by omega, by omega, by omega⟩, hM5⟩
theorem minute1_any (o : Ov) (ho : o.Ok) (c : Cl) (hc : -2000 ≤ c.1 ∧ c.1 ≤ 2000) (b : Nat) (w : World) (h : OAt w b o) :
    Calls Try.prog 102 #[c.val, .pointer (some ⟨b, 0, none⟩)] w (MinuteV w (lowAt o c) (highAt o c) (heatsAt o c)) := by
  obtain ⟨t, c⟩ := c
  obtain ⟨lo, hi, ⟨wl, wh⟩, ⟨cl, ch⟩⟩ := o
  obtain ⟨⟨_, _, ⟨b1, b2⟩, b3, b4⟩, _⟩ := ho
  have hl := h.lt
  obtain ⟨⟨k0, k1, k2⟩, k3, k4, k5⟩ := h
  by_cases h1 : t < lo
  · have e : heatsAt ⟨lo, hi, (wl, wh), (cl, ch)⟩ (t, c) = true := by simp [heatsAt, h1]
    rw [lowAt, highAt, e]
    exact minute1_a t lo hi wl wh cl ch c b w hl k0 k1 k2 k3 k4 k5 hc ⟨b1, b2, b3, b4⟩ h1
  · by_cases h2 : t ≤ hi
    · cases c
      · have e : heatsAt ⟨lo, hi, (wl, wh), (cl, ch)⟩ (t, false) = false := by simp [heatsAt]; omega
        rw [lowAt, highAt, e]
        exact minute1_c t lo hi wl wh cl ch b w hl k0 k1 k2 k3 k4 k5 hc ⟨b1, b2, b3, b4⟩ h1 h2
      · have e : heatsAt ⟨lo, hi, (wl, wh), (cl, ch)⟩ (t, true) = true := by simp [heatsAt]; omega
        rw [lowAt, highAt, e]
        exact minute1_b t lo hi wl wh cl ch b w hl k0 k1 k2 k3 k4 k5 hc ⟨b1, b2, b3, b4⟩ h1 h2
    · have e : heatsAt ⟨lo, hi, (wl, wh), (cl, ch)⟩ (t, c) = false := by simp [heatsAt]; omega
      rw [lowAt, highAt, e]
      exact minute1_d t lo hi wl wh cl ch c b w hl k0 k1 k2 k3 k4 k5 hc ⟨b1, b2, b3, b4⟩ h1 h2
end Go.Proofs.Ytlocdkjnefmiaaa
