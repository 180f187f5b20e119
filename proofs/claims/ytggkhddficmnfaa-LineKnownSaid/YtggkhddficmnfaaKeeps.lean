/-
  Keeps: what it returns.
-/
import Derived.Test.YtggkhddficmnfaaOvenMain
import Derived.Test.YtggkhddficmnfaaPassMain
namespace Go.Proofs.Ytggkhddficmnfaa
open Go.RowKit Go.Shelf
set_option linter.unusedVariables false
set_option linter.unusedSimpArgs false
attribute [local go_sem] Oper.semAt_some

/-- The line may not be safe at a temperature. -/
def Ln.bad (l : Ln) (t : Int) : Bool := !(l.ends.2.2 && (decide (l.ends.1 ≤ t) && decide (t ≤ l.ends.2.1)))
def keepsErr (l : Ln) (o : Ov) (s : Int × Int) (m : Int) : Int := if l.Ok then ovErr o s m else 7
def keepsOf (l : Ln) (o : Ov) (s : Int × Int) (h : Bool) (m : Int) : Int := match (ovAll o s h m).find? (fun x => l.bad x.2.1) with | some x => (x.1 : Int) | none => -1

abbrev keeps5 (w : World) (l : Ln) (o : Ov) (s : Int × Int) : World := ((((w.alloc (.cells #[.int .i64 l.W, .int .i64 l.B, .int .i64 l.P, .int .i64 l.D, .int .i64 l.S, .int .i64 l.N] 25)).alloc (.cells #[.int .i64 o.lo, .int .i64 o.hi, .int .i64 o.warm.1, .int .i64 o.warm.2, .int .i64 o.cool.1, .int .i64 o.cool.2] 50)).alloc (.cells #[.int .i64 s.1, .int .i64 s.2] 31)).alloc (.cells #[.int .i64 0] 3)).alloc (.cells #[.int .i64 0] 26)
theorem keeps5_r0 (w : World) (l : Ln) (o : Ov) (s : Int × Int) : Boxed (keeps5 w l o s) (w.heap.size + 1 + 1 + 1) 3 (.int .i64 0) := by
  have := (Boxed.new (((w.alloc (.cells #[.int .i64 l.W, .int .i64 l.B, .int .i64 l.P, .int .i64 l.D, .int .i64 l.S, .int .i64 l.N] 25)).alloc (.cells #[.int .i64 o.lo, .int .i64 o.hi, .int .i64 o.warm.1, .int .i64 o.warm.2, .int .i64 o.cool.1, .int .i64 o.cool.2] 50)).alloc (.cells #[.int .i64 s.1, .int .i64 s.2] 31)) 3 (.int .i64 0)).alloc (.cells #[.int .i64 0] 26)
  simpa only [World.size_alloc] using this
theorem keeps5_r1 (w : World) (l : Ln) (o : Ov) (s : Int × Int) : Boxed (keeps5 w l o s) (w.heap.size + 1 + 1 + 1 + 1) 26 (.int .i64 0) := by
  have := Boxed.new ((((w.alloc (.cells #[.int .i64 l.W, .int .i64 l.B, .int .i64 l.P, .int .i64 l.D, .int .i64 l.S, .int .i64 l.N] 25)).alloc (.cells #[.int .i64 o.lo, .int .i64 o.hi, .int .i64 o.warm.1, .int .i64 o.warm.2, .int .i64 o.cool.1, .int .i64 o.cool.2] 50)).alloc (.cells #[.int .i64 s.1, .int .i64 s.2] 31)).alloc (.cells #[.int .i64 0] 3)) 26 (.int .i64 0)
  simpa only [World.size_alloc] using this
theorem keeps5_ln (w : World) (l : Ln) (o : Ov) (s : Int × Int) : LnAt w.heap.size l (keeps5 w l o s) :=
  lnAt_call (lnAt_new' l w) (b_alloc (b_alloc (b_alloc (b_alloc (Below.refl _ _) _) _) _) _)
theorem keeps5_o (w : World) (l : Ln) (o : Ov) (s : Int × Int) : OAt (keeps5 w l o s) (w.heap.size + 1) o := by
  have := (OAt.new (w.alloc (.cells #[.int .i64 l.W, .int .i64 l.B, .int .i64 l.P, .int .i64 l.D, .int .i64 l.S, .int .i64 l.N] 25)) o).call (b_alloc (b_alloc (b_alloc (Below.refl _ _) (.cells #[.int .i64 s.1, .int .i64 s.2] 31)) (.cells #[.int .i64 0] 3)) (.cells #[.int .i64 0] 26))
  simpa only [World.size_alloc] using this
theorem keeps5_s (w : World) (l : Ln) (o : Ov) (s : Int × Int) : (keeps5 w l o s).cell? ⟨w.heap.size + 1 + 1, 0, none⟩ = some (.int .i64 s.1) ∧ (keeps5 w l o s).cell? ⟨w.heap.size + 1 + 1, 1, none⟩ = some (.int .i64 s.2) := by
  have h := fun k v e => (((Cel.new ((w.alloc (.cells #[.int .i64 l.W, .int .i64 l.B, .int .i64 l.P, .int .i64 l.D, .int .i64 l.S, .int .i64 l.N] 25)).alloc (.cells #[.int .i64 o.lo, .int .i64 o.hi, .int .i64 o.warm.1, .int .i64 o.warm.2, .int .i64 o.cool.1, .int .i64 o.cool.2] 50)) #[.int .i64 s.1, .int .i64 s.2] 31 k v e).alloc (.cells #[.int .i64 0] 3)).alloc (.cells #[.int .i64 0] 26)).1
  simp only [World.size_alloc] at h
  exact ⟨h 0 _ rfl, h 1 _ rfl⟩
theorem keeps5_below (w : World) (l : Ln) (o : Ov) (s : Int × Int) : Below w.heap.size w (keeps5 w l o s) := b_alloc (b_alloc (b_alloc (b_alloc (b_alloc (Below.refl _ _) _) _) _) _) _

set_option maxRecDepth 100000 in
set_option maxHeartbeats 1000000 in
theorem Keeps_no (l : Ln) (hl : ¬ l.Ok) (o : Ov) (s : Int × Int) (h : Bool) (m : Int) (w : World) :
    Calls Try.prog 38 #[l.val, o.val, spanV s, .bool h, .int .i64 m] w (Ret w (val2 0 7)) := by
  have r0 := hid (keeps5_r0 w l o s)
  have r1 := hid (keeps5_r1 w l o s)
  have rb := hid (keeps5_below w l o s)
  go_enter Try.func38, Try.ntmps38
  go_wp2_with (go_at_call 25; refine (Check_no l hl _).mono ?_; rintro e w1 ⟨rfl, hb1⟩; have HB1 := hid (b_call hb1 rb.out); have s0 := boxed_call r0.out hb1; have s1 := boxed_call r1.out hb1; have e1 := s0.cell; have e1' := s0.frozen; have e2 := (s1.other (B' := w.heap.size + 1 + 1 + 1) (by omega) (.int .i64 0)).cell; have e2' := (s1.other (B' := w.heap.size + 1 + 1 + 1) (by omega) (.int .i64 0)).frozen; have S0 := hid s0; have S1 := hid s1; clear hb1 r0 r1 rb s0 s1)
  have y1 := (S0.out.set (.int .i64 0)).other (B' := w.heap.size + 1 + 1 + 1 + 1) (by omega) (.int .i64 7)
  have y2 := (S1.out.other (B' := w.heap.size + 1 + 1 + 1) (by omega) (.int .i64 0)).set (.int .i64 7)
  have yb := (HB1.out.setCell (p := ⟨w.heap.size + 1 + 1 + 1, 0, none⟩) (by simp; omega) (.int .i64 0)).setCell (p := ⟨w.heap.size + 1 + 1 + 1 + 1, 0, none⟩) (by simp; omega) (.int .i64 7)
  have z1 := y1.cell
  have z2 := y2.cell
  refine ⟨rfl, .tuple #[.int .i64 0, .int .i64 7], ?_, rfl, yb⟩
  simp [results, Try.f38, go_sem, z1, z2]

set_option maxRecDepth 100000 in
set_option maxHeartbeats 1000000 in
theorem Keeps_oven (l : Ln) (hl : l.Ok) (o : Ov) (s : Int × Int) (h : Bool) (m : Int) (er : Int) (he : ovErr o s m = er) (hne : er ≠ 0) (w : World) :
    Calls Try.prog 38 #[l.val, o.val, spanV s, .bool h, .int .i64 m] w (Ret w (val2 0 er)) := by
  have hoe := fun W => ovenError_any o s m W
  rw [he] at hoe
  have HOE := hid hoe
  have hne' : (er != 0) = true := by simpa using hne
  have r0 := hid (keeps5_r0 w l o s)
  have r1 := hid (keeps5_r1 w l o s)
  have ro := hid (keeps5_o w l o s)
  have rs := hid (keeps5_s w l o s)
  have rb := hid (keeps5_below w l o s)
  clear hoe he
  go_enter Try.func38, Try.ntmps38
  go_wp2_with (first
    | (go_at_call 25; refine (Check_ok l hl _).mono ?_; rintro e w1 ⟨rfl, hb1⟩; have HB1 := hid (b_call hb1 rb.out); have s0 := hid (boxed_call r0.out hb1); have s1 := hid (boxed_call r1.out hb1); have so := ro.out.call hb1; obtain ⟨⟨o0, o1, o2⟩, o3, o4, o5⟩ := so; have p0 := cell_later hb1 rs.out.1; have p1 := cell_later hb1 rs.out.2; clear hb1 r0 r1 rb)
    | (go_at_call 78; refine (HOE.out _).mono ?_; rintro e w2 ⟨rfl, hb2⟩; have HB2 := hid (b_call hb2 HB1.out); have t0 := boxed_call s0.out hb2; have t1 := boxed_call s1.out hb2; have e1 := t0.cell; have e1' := t0.frozen; have e2 := (t1.other (B' := w.heap.size + 1 + 1 + 1) (by omega) (.int .i64 0)).cell; have e2' := (t1.other (B' := w.heap.size + 1 + 1 + 1) (by omega) (.int .i64 0)).frozen; have S0 := hid t0; have S1 := hid t1; clear hb2 t0 t1 o0 o1 o2 o3 o4 o5 p0 p1))
  have y1 := (S0.out.set (.int .i64 0)).other (B' := w.heap.size + 1 + 1 + 1 + 1) (by omega) (.int .i64 er)
  have y2 := (S1.out.other (B' := w.heap.size + 1 + 1 + 1) (by omega) (.int .i64 0)).set (.int .i64 er)
  have yb := (HB2.out.setCell (p := ⟨w.heap.size + 1 + 1 + 1, 0, none⟩) (by simp; omega) (.int .i64 0)).setCell (p := ⟨w.heap.size + 1 + 1 + 1 + 1, 0, none⟩) (by simp; omega) (.int .i64 er)
  have z1 := y1.cell
  have z2 := y2.cell
  refine ⟨rfl, .tuple #[.int .i64 0, .int .i64 er], ?_, rfl, yb⟩
  simp [results, Try.f38, go_sem, z1, z2]
end Go.Proofs.Ytggkhddficmnfaa
