/-
  Keeps: what it returns.
  Keeps: where there is no error.
  The span of Safe: just the temperatures at which the line is safe.
  What an oven can come to, minute by minute; what Oven and Keeps say of it.
-/
import Derived.Test.YtlocdkjnefmiaaaOvenMain
import Derived.Test.YtlocdkjnefmiaaaGPass
import Derived.Test.YtlocdkjnefmiaaaGRange
namespace Go.Proofs.Ytlocdkjnefmiaaa
open Go.RowKit Go.Shelf
set_option linter.unusedVariables false
set_option linter.unusedSimpArgs false
attribute [local go_sem] Oper.semAt_some

/-- The line may not be safe at a temperature. -/
def Ln.bad (l : Ln) (t : Int) : Bool := !(l.ends.2.2 && (decide (l.ends.1 ≤ t) && decide (t ≤ l.ends.2.1)))
def keepsErr (l : Ln) (o : Ov) (s : Int × Int) (m : Int) : Int := if l.Ok then ovErr o s m else 7
def keepsOf (l : Ln) (o : Ov) (s : Int × Int) (h : Bool) (m : Int) : Int := match (ovAll o s h m).find? (fun x => l.bad x.2.1) with | some x => (x.1 : Int) | none => -1

abbrev keeps5 (w : World) (l : Ln) (o : Ov) (s : Int × Int) : World := ((((w.alloc (.cells #[.int .i64 l.W, .int .i64 l.B, .int .i64 l.P, .int .i64 l.D, .int .i64 l.S, .int .i64 l.N] 25)).alloc (.cells #[.int .i64 o.lo, .int .i64 o.hi, .int .i64 o.warm.1, .int .i64 o.warm.2, .int .i64 o.cool.1, .int .i64 o.cool.2] 50)).alloc (.cells #[.int .i64 s.1, .int .i64 s.2] 31)).alloc (.cells #[.int .i64 0] 3)).alloc (.cells #[.int .i64 0] 26)
theorem keeps5_r0 (w : World) (l : Ln) (o : Ov) (s : Int × Int) : Boxed (keeps5 w l o s) (w.heap.size + 1 + 1 + 1) 3 (.int .i64 0) := by
  have := (Boxed.new (((w.alloc (.cells #[.int .i64 l.W, .int .i64 l.B, .int .i64 l.P, .int .i64 l.D, .int .i64 l.S, .int .i64 l.N] 25)).alloc (.cells #[.int .i64 o.lo, .int .i64 o.hi, .int .i64 o.warm.1, .int .i64 o.warm.2, .int .i64 o.cool.1, .int .i64 o.cool.2] 50)).alloc (.cells #[.int .i64 s.1, .int .i64 s.2] 31)) 3 (.int .i64 0)).alloc (.cells #[.int .i64 0] 26)
  simpa only [World.size_alloc] using this
theorem keeps5_r1 (w : World) (l : Ln) (o : Ov) (s : Int × Int) : Boxed (keeps5 w l o s) (w.heap.size + 1 + 1 + 1 + 1) 26 (.int .i64 0) := by
  have := Boxed.new ((((w.alloc (.cells #[.int .i64 l.W, .int .i64 l.B, .int .i64 l.P, .int .i64 l.D, .int .i64 l.S, .int .i64 l.N] 25)).alloc (.cells #[.int .i64 o.lo, .int .i64 o.hi, .int .i64 o.warm.1, .int .i64 o.warm.2, .int .i64 o.cool.1, .int .i64 o.cool.2] 50)).alloc (.cells #[.int .i64 s.1, .int .i64 s.2] 31)).alloc (.cells #[.int .i64 0] 3)) 26 (.int .i64 0)
  simpa only [World.size_alloc] using this
theorem keeps5_ln (w : World) (l : Ln) (o : Ov) (s : Int × Int) : LnAt w.heap.size l (keeps5 w l o s) :=
  lnAt_call (lnAt_new' l w) (b_alloc (b_alloc (b_alloc (b_alloc (Below.refl _ _) _) _) _) _)
theorem keeps5_o (w : World) (l : Ln) (o : Ov) (s : Int × Int) : OAt (keeps5 w l o s) (w.heap.size + 1) o := by
  have := (OAt.new (w.alloc (.cells #[.int .i64 l.W, .int .i64 l.B, .int .i64 l.P, .int .i64 l.D, .int .i64 l.S, .int .i64 l.N] 25)) o).call (b_alloc (b_alloc (b_alloc (Below.refl _ _) (.cells #[.int .i64 s.1, .int .i64 s.2] 31)) (.cells #[.int .i64 0] 3)) (.cells #[.int .i64 0] 26))
  simpa only [World.size_alloc] using this
theorem keeps5_s (w : World) (l : Ln) (o : Ov) (s : Int × Int) : (keeps5 w l o s).cell? ⟨w.heap.size + 1 + 1, 0, none⟩ = some (.int .i64 s.1) ∧ (keeps5 w l o s).cell? ⟨w.heap.size + 1 + 1, 1, none⟩ = some (.int .i64 s.2) := by
  have h := fun k v e => (((Cel.new ((w.alloc (.cells #[.int .i64 l.W, .int .i64 l.B, .int .i64 l.P, .int .i64 l.D, .int .i64 l.S, .int .i64 l.N] 25)).alloc (.cells #[.int .i64 o.lo, .int .i64 o.hi, .int .i64 o.warm.1, .int .i64 o.warm.2, .int .i64 o.cool.1, .int .i64 o.cool.2] 50)) #[.int .i64 s.1, .int .i64 s.2] 31 k v e).alloc (.cells #[.int .i64 0] 3)).alloc (.cells #[.int .i64 0] 26)).1
  simp only [World.size_alloc] at h
  exact ⟨h 0 _ rfl, h 1 _ rfl⟩
theorem keeps5_below (w : World) (l : Ln) (o : Ov) (s : Int × Int) : Below w.heap.size w (keeps5 w l o s) := b_alloc (b_alloc (b_alloc (b_alloc (b_alloc (Below.refl _ _) _) _) _) _) _

set_option maxRecDepth 100000 in
set_option maxHeartbeats 1000000 in
theorem Keeps_no (l : Ln) (hl : ¬ l.Ok) (o : Ov) (s : Int × Int) (h : Bool) (m : Int) (w : World) :
    Calls Try.prog 38 #[l.val, o.val, spanV s, .bool h, .int .i64 m] w (Ret w (val2 0 7)) := by
  have r0 := hid (keeps5_r0 w l o s)
  have r1 := hid (keeps5_r1 w l o s)
  have rb := hid (keeps5_below w l o s)
  go_enter Try.func38, Try.ntmps38
  go_wp2_with (go_at_call 25; refine (Check_no l hl _).mono ?_; rintro e w1 ⟨rfl, hb1⟩; have HB1 := hid (b_call hb1 rb.out); have s0 := boxed_call r0.out hb1; have s1 := boxed_call r1.out hb1; have e1 := s0.cell; have e1' := s0.frozen; have e2 := (s1.other (B' := w.heap.size + 1 + 1 + 1) (by omega) (.int .i64 0)).cell; have e2' := (s1.other (B' := w.heap.size + 1 + 1 + 1) (by omega) (.int .i64 0)).frozen; have S0 := hid s0; have S1 := hid s1; clear hb1 r0 r1 rb s0 s1)
  have y1 := (S0.out.set (.int .i64 0)).other (B' := w.heap.size + 1 + 1 + 1 + 1) (by omega) (.int .i64 7)
  have y2 := (S1.out.other (B' := w.heap.size + 1 + 1 + 1) (by omega) (.int .i64 0)).set (.int .i64 7)
  have yb := (HB1.out.setCell (p := ⟨w.heap.size + 1 + 1 + 1, 0, none⟩) (by simp; omega) (.int .i64 0)).setCell (p := ⟨w.heap.size + 1 + 1 + 1 + 1, 0, none⟩) (by simp; omega) (.int .i64 7)
  have z1 := y1.cell
  have z2 := y2.cell
  refine ⟨rfl, .tuple #[.int .i64 0, .int .i64 7], ?_, rfl, yb⟩
  simp [results, Try.f38, go_sem, z1, z2]

set_option maxRecDepth 100000 in
set_option maxHeartbeats 1000000 in
theorem Keeps_oven (l : Ln) (hl : l.Ok) (o : Ov) (s : Int × Int) (h : Bool) (m : Int) (er : Int) (he : ovErr o s m = er) (hne : er ≠ 0) (w : World) :
    Calls Try.prog 38 #[l.val, o.val, spanV s, .bool h, .int .i64 m] w (Ret w (val2 0 er)) := by
  have hoe := fun W => ovenError_any o s m W
  rw [he] at hoe
  have HOE := hid hoe
  have hne' : (er != 0) = true := by simpa using hne
  have r0 := hid (keeps5_r0 w l o s)
  have r1 := hid (keeps5_r1 w l o s)
  have ro := hid (keeps5_o w l o s)
  have rs := hid (keeps5_s w l o s)
  have rb := hid (keeps5_below w l o s)
  clear hoe he
  go_enter Try.func38, Try.ntmps38
  go_wp2_with (first
    | (go_at_call 25; refine (Check_ok l hl _).mono ?_; rintro e w1 ⟨rfl, hb1⟩; have HB1 := hid (b_call hb1 rb.out); have s0 := hid (boxed_call r0.out hb1); have s1 := hid (boxed_call r1.out hb1); have so := ro.out.call hb1; obtain ⟨⟨o0, o1, o2⟩, o3, o4, o5⟩ := so; have p0 := cell_later hb1 rs.out.1; have p1 := cell_later hb1 rs.out.2; clear hb1 r0 r1 rb)
    | (go_at_call 78; refine (HOE.out _).mono ?_; rintro e w2 ⟨rfl, hb2⟩; have HB2 := hid (b_call hb2 HB1.out); have t0 := boxed_call s0.out hb2; have t1 := boxed_call s1.out hb2; have e1 := t0.cell; have e1' := t0.frozen; have e2 := (t1.other (B' := w.heap.size + 1 + 1 + 1) (by omega) (.int .i64 0)).cell; have e2' := (t1.other (B' := w.heap.size + 1 + 1 + 1) (by omega) (.int .i64 0)).frozen; have S0 := hid t0; have S1 := hid t1; clear hb2 t0 t1 o0 o1 o2 o3 o4 o5 p0 p1))
  have y1 := (S0.out.set (.int .i64 0)).other (B' := w.heap.size + 1 + 1 + 1 + 1) (by omega) (.int .i64 er)
  have y2 := (S1.out.other (B' := w.heap.size + 1 + 1 + 1) (by omega) (.int .i64 0)).set (.int .i64 er)
  have yb := (HB2.out.setCell (p := ⟨w.heap.size + 1 + 1 + 1, 0, none⟩) (by simp; omega) (.int .i64 0)).setCell (p := ⟨w.heap.size + 1 + 1 + 1 + 1, 0, none⟩) (by simp; omega) (.int .i64 er)
  have z1 := y1.cell
  have z2 := y2.cell
  refine ⟨rfl, .tuple #[.int .i64 0, .int .i64 er], ?_, rfl, yb⟩
  simp [results, Try.f38, go_sem, z1, z2]
end Go.Proofs.Ytlocdkjnefmiaaa
namespace Go.Proofs.Ytlocdkjnefmiaaa
open Go.RowKit Go.Shelf
set_option linter.unusedVariables false
set_option linter.unusedSimpArgs false
attribute [local go_sem] Oper.semAt_some

theorem keeps_end {w WF : World} {s D : Nat} {n : Int} (hs : w.heap.size = s) (hD : s + 4 < D) (b1 : Boxed WF (s + 1 + 1 + 1) 3 (.int .i64 n)) (b2 : Boxed WF (s + 1 + 1 + 1 + 1) 26 (.int .i64 0)) (hB : Below s w WF) :
    (WF.putObj D (.deferred none)).cell? ⟨s + 1 + 1 + 1, 0, none⟩ = some (.int .i64 n) ∧ (WF.putObj D (.deferred none)).cell? ⟨s + 1 + 1 + 1 + 1, 0, none⟩ = some (.int .i64 0) ∧ Ret w (val2 n 0) (.returned (val2 n 0)) (WF.putObj D (.deferred none)) := by
  have gr := grownBy_putObj' WF D (.deferred none)
  refine ⟨(b1.kept gr (fun e => by cases e; omega)).cell, (b2.kept gr (fun e => by cases e; omega)).cell, rfl, ?_⟩
  rw [hs]; exact hB.grown gr (by have := hB.size; omega) (fun k e => by cases e; omega)

/-- Between two rounds. -/
structure KeepsI (l : Ln) (lo hi er : Int) (s Bs N0 : Nat) (w : World) (pre : List (Nat × Cl)) (V : World) : Prop where
  good : ∀ x ∈ pre, l.bad x.2.1 = false
  r0 : Boxed V (s + 1 + 1 + 1) 3 (.int .i64 0)
  r1 : Boxed V (s + 1 + 1 + 1 + 1) 26 (.int .i64 0)
  sp : V.heap[Bs]? = some (.cells #[.int .i64 lo, .int .i64 hi] 31 (0, 0))
  ne : Boxed V (Bs + 1) 26 (.int .i64 er)
  below : Below s w V
  size : N0 ≤ V.heap.size
structure KeepsX (l : Ln) (s N0 : Nat) (w : World) (c : Code) (pre : List (Nat × Cl)) (V : World) : Prop where
  ret : c = .ret
  found : ∃ x p, pre = p ++ [x] ∧ (∀ y ∈ p, l.bad y.2.1 = false) ∧ l.bad x.2.1 = true ∧ Boxed V (s + 1 + 1 + 1) 3 (.int .i64 (x.1 : Int))
  r1 : Boxed V (s + 1 + 1 + 1 + 1) 26 (.int .i64 0)
  below : Below s w V
  size : N0 ≤ V.heap.size
theorem KeepsI.grown {l : Ln} {lo hi er : Int} {s Bs N0 : Nat} {w A B : World} {pre : List (Nat × Cl)} {row : Option Nat} (h : KeepsI l lo hi er s Bs N0 w pre A) (hs : s ≤ w.heap.size) (h1 : s + 5 ≤ Bs) (h2 : Bs + 2 ≤ N0) (hg : A.grownBy B row) (hr : ∀ r, row = some r → N0 ≤ r) : KeepsI l lo hi er s Bs N0 w pre B := by
  have hz := h.size
  refine ⟨h.good, h.r0.kept hg (fun e => by have := hr _ e.symm; omega), h.r1.kept hg (fun e => by have := hr _ e.symm; omega), (hg.block Bs (by omega) (fun e => by have := hr _ e.symm; omega)).trans h.sp, h.ne.kept hg (fun e => by have := hr _ e.symm; omega), h.below.grown hg (by omega) (fun k e => by have := hr _ e; omega), Nat.le_trans hz hg.size⟩
theorem KeepsX.grown {l : Ln} {s N0 : Nat} {w A B : World} {c : Code} {pre : List (Nat × Cl)} {row : Option Nat} (h : KeepsX l s N0 w c pre A) (h1 : s + 5 ≤ N0) (hg : A.grownBy B row) (hr : ∀ r, row = some r → N0 ≤ r) : KeepsX l s N0 w c pre B := by
  have hz := h.size
  obtain ⟨x, p, e, g1, g2, g3⟩ := h.found
  exact ⟨h.ret, ⟨x, p, e, g1, g2, g3.kept hg (fun e => by have := hr _ e.symm; omega)⟩, h.r1.kept hg (fun e => by have := hr _ e.symm; omega), h.below.grown hg (by omega) (fun k e => by have := hr _ e; omega), Nat.le_trans hz hg.size⟩

set_option maxRecDepth 100000 in
set_option maxHeartbeats 4000000 in
theorem Keeps_in (l : Ln) (hl : l.Ok) (o : Ov) (s0 : Int × Int) (h : Bool) (m : Int) (he : ovErr o s0 m = 0) (lo hi er : Int) (hbad : ∀ t, l.bad t = !(decide (er = 0) && (decide (lo ≤ t) && decide (t ≤ hi)))) (her : er = 0 ∨ er = 9)
    (hS : ∀ W, Calls Try.prog 27 #[l.val] W (Ret W (.tuple #[.agg #[.int .i64 lo, .int .i64 hi], .int .i64 er]))) (w : World) :
    CallsIn Fence.wide 10 Try.prog 38 #[l.val, o.val, spanV s0, .bool h, .int .i64 m] w (Ret w (val2 (keepsOf l o s0 h m) 0)) := by
  obtain ⟨ho, ⟨hlo, hhi, hle⟩, hm0, hm⟩ := ovErr_ok he
  obtain ⟨slo, shi⟩ := s0
  obtain ⟨M, rfl⟩ : ∃ M : Nat, m = (M : Int) := ⟨m.toNat, by omega⟩
  have hoe := fun W => ovenError_any o (slo, shi) (M : Int) W
  rw [he] at hoe
  have HOE := hid hoe
  have HS := hid hS
  have hkd : keepsOf l o (slo, shi) h (M : Int) = match (yieldsTo o (beginL slo h (shi - slo + 1).toNat) (M + 1)).find? (fun x => l.bad x.2.1) with | some x => (x.1 : Int) | none => -1 := rfl
  obtain ⟨kv, hkv⟩ : ∃ kv, keepsOf l o (slo, shi) h (M : Int) = kv := ⟨_, rfl⟩
  rw [hkv]
  rw [hkd] at hkv
  have HKV := hid hkv
  have r0 := hid (keeps5_r0 w l o (slo, shi))
  have r1 := hid (keeps5_r1 w l o (slo, shi))
  have ro := hid (keeps5_o w l o (slo, shi))
  have rs := hid (keeps5_s w l o (slo, shi))
  have rl := hid (keeps5_ln w l o (slo, shi))
  have rb := hid (keeps5_below w l o (slo, shi))
  have HBAD := hid hbad
  have HER := hid her
  clear hoe he hS hkd hbad her hkv
  refine callsIn_of_wp_marks Try.func38 rfl trivial ?_ rfl
  simp only [Try.ntmps38, List.size_toArray, List.length_cons, List.length_nil, Nat.reduceAdd, Nat.reduceSub, Array.replicate_succ, Array.replicate_zero, List.push_toArray, List.append_toArray, List.nil_append, List.cons_append]
  gi_wp2_with (first
    | (refine ⟨trivial, ?_⟩; gi_at_call 25; refine (inWide (Check_ok l hl _)).mono ?_; rintro e w1 ⟨rfl, hb1⟩; have HB1 := hid (b_call hb1 rb.out); have hs0 := hid (boxed_call r0.out hb1); have hs1 := hid (boxed_call r1.out hb1); have HO1 := hid (ro.out.call hb1); have HL1 := hid (lnAt_call rl.out hb1); have p0 := cell_later hb1 rs.out.1; have p1 := cell_later hb1 rs.out.2; have HP1 := hid (And.intro p0 p1); obtain ⟨⟨o0, o1, o2⟩, o3, o4, o5⟩ := HO1.out; clear hb1 r0 r1 rb ro rs rl)
    | (refine ⟨trivial, ?_⟩; gi_at_call 78; refine (inWide (HOE.out _)).mono ?_; rintro e w2 ⟨rfl, hb2⟩; have HB2 := hid (b_call hb2 HB1.out); have ht0 := hid (boxed_call hs0.out hb2); have ht1 := hid (boxed_call hs1.out hb2); have HO2 := hid (HO1.out.call hb2); have HL2 := hid (lnAt_call HL1.out hb2); clear p0 p1 o0 o1 o2 o3 o4 o5; have p0 := cell_later hb2 HP1.out.1; have p1 := cell_later hb2 HP1.out.2; have HP2 := hid (And.intro p0 p1); obtain ⟨d0, d1, d2, d3, d4, d5⟩ := HL2.out; clear hb2 hs0 hs1 HO1 HL1 HP1 p0 p1)
    | (refine ⟨trivial, ?_⟩; gi_at_call 27; refine (inWide (HS.out _)).mono ?_; rintro e w3 ⟨rfl, hb3⟩; have HB3 := hid (b_call hb3 HB2.out); have HLT := hid (boxed_call ht1.out hb3).lt; have hb3' := hid (show Below w2.heap.size w2 ((w3.alloc (.cells #[.int .i64 lo, .int .i64 hi] 31)).alloc (.cells #[.int .i64 er] 26)) from b_alloc (b_alloc hb3 _) _); have hu0 := hid (boxed_call ht0.out hb3'.out); have hu1 := hid (boxed_call ht1.out hb3'.out); have HO3 := hid (HO2.out.call hb3'.out); clear d0 d1 d2 d3 d4 d5; have p0 := cell_later hb3'.out HP2.out.1; have p1 := cell_later hb3'.out HP2.out.2; obtain ⟨⟨o0, o1, o2⟩, o3, o4, o5⟩ := HO3.out; clear hb3 ht0 ht1 HO2 HL2 HP2)
    | (refine ⟨trivial, ?_⟩; gi_at_call 80; refine (inWide (climates_any o slo shi h M _)).mono ?_; rintro e w4 ⟨rfl, rfl⟩))
  have u0 := hu0.out
  have u1 := hu1.out
  obtain ⟨Bs, hBs⟩ : ∃ Bs, w3.heap.size = Bs := ⟨_, rfl⟩
  have hBlt : w.heap.size + 5 ≤ Bs := by have := HLT.out; omega
  have hBel := b_alloc (b_alloc HB3.out (.cells #[.int .i64 lo, .int .i64 hi] 31)) (.cells #[.int .i64 er] 26)
  have hsp : ((w3.alloc (.cells #[.int .i64 lo, .int .i64 hi] 31)).alloc (.cells #[.int .i64 er] 26)).heap[Bs]? = some (.cells #[.int .i64 lo, .int .i64 hi] 31 (0, 0)) := by
    rw [← hBs]; exact (Below.heap_alloc _ _ _ (by simp)).trans (World.alloc_heap_new w3 _)
  have hne : Boxed ((w3.alloc (.cells #[.int .i64 lo, .int .i64 hi] 31)).alloc (.cells #[.int .i64 er] 26)) (Bs + 1) 26 (.int .i64 er) := by
    have := Boxed.new (w3.alloc (.cells #[.int .i64 lo, .int .i64 hi] 31)) 26 (.int .i64 er)
    rwa [World.size_alloc, hBs] at this
  have hsz3 : ((w3.alloc (.cells #[.int .i64 lo, .int .i64 hi] 31)).alloc (.cells #[.int .i64 er] 26)).heap.size = Bs + 1 + 1 := by simp; omega
  obtain ⟨V3, hV3⟩ : ∃ V3, (w3.alloc (.cells #[.int .i64 lo, .int .i64 hi] 31)).alloc (.cells #[.int .i64 er] 26) = V3 := ⟨_, rfl⟩
  rw [hV3] at u0 u1 hBel hsp hne hsz3 ⊢
  rw [hBs]
  have hz4 := given4_size V3 o slo shi h M
  have hb4 := given4_below V3 o slo shi h M
  have hg4 := given4_is V3 o slo shi h M
  obtain ⟨w4, hw4⟩ : ∃ w4, given4 V3 o slo shi h M = w4 := ⟨_, rfl⟩
  rw [hw4] at hz4 hb4 hg4
  have hI0 : KeepsI l lo hi er w.heap.size Bs (Bs + 6) w [] w4 :=
    ⟨(fun x hx => by cases hx), boxed_call u0 hb4, boxed_call u1 hb4, (hb4.block Bs (by omega)).trans hsp, boxed_call hne hb4, b_call hb4 hBel, by omega⟩
  unfold given4 at hw4
  rw [hw4]
  rw [hsz3] at hg4
  clear hw4 hV3 u0 u1 hBel hsp hne hu0 hu1 hb3' HO3 o0 o1 o2 o3 o4 o5 p0 p1 HB1 HB2 HB3
  obtain ⟨N0, hN0⟩ : ∃ N0, w4.heap.size = N0 := ⟨_, rfl⟩
  have hN6 : N0 = Bs + 6 := by omega
  refine range_box (n := 10) (fun (x : Nat × Cl) B ts => (((ts.setIfInBounds 40 (.int .i64 (x.1 : Int))).setIfInBounds 41 (Cl.val x.2)).setIfInBounds 16 (.int .i64 (x.1 : Int))).setIfInBounds 17 (.pointer (some ⟨B, 0, none⟩))) (fun x => .cells #[.int .i64 x.2.1, .bool x.2.2] 116) (fun _ => rfl) rfl (by omega) (gf := 97)
    (lb := #[.pointer (some ⟨Bs + 1 + 1, 0, none⟩), .pointer (some ⟨Bs + 1 + 1 + 1, 0, none⟩), .pointer (some ⟨Bs + 1 + 1 + 1 + 1, 0, none⟩), .pointer (some ⟨Bs + 1 + 1 + 1 + 1 + 1, 0, none⟩)]) rfl trivial (enters_of Try.func97 (by kernel_rfl) rfl)
    (climates_seq o ho slo shi h M (shi - slo + 1).toNat hlo hhi (by omega) (by omega) (fun _ => False) 9 _ _ _ _ (by omega) w4 (fun k x => x.elim) hg4) (Kp := Kept (fun k => False ∨ k = w4.heap.size + 1)) (fun _ _ h => h) (fun h k => h.trans k)
    (fun V r o' hr => Kept.put _ _ _ (.inr rfl)) (Below.refl _ _) (fun _ => rfl)
    (KeepsI l lo hi er w.heap.size Bs (Bs + 6) w) (KeepsX l w.heap.size (Bs + 6) w) ?_ ?_ hI0 ?assign ?body ?done ?stop
  · intro pre A B row hh hg hr
    exact hh.grown (Nat.le_refl _) (by omega) (by omega) hg (fun r e => by have := (hr r e).1; omega)
  · intro c pre A B row hh hg hr
    exact hh.grown (by omega) hg (fun r e => by have := (hr r e).1; omega)
  case assign =>
    intro l1 pre x V K' hi' hK'
    have HK := hid hK'
    have hzv := hi'.size
    clear hK'
    gi_wp2
    exact HK.out _ _ ((KeepsOthers.alloc _ _).from _) (Kept.alloc _ _ _) (hi'.grown (Nat.le_refl _) (by omega) (by omega) (World.grownBy_alloc _ _ none) (by simp)) (by omega) (World.alloc_heap_new _ _)
  case body =>
    rintro l1 pre ⟨q, t, b⟩ B V hl1 hi' hB hobj hlen
    have c0 : V.cell? ⟨B, 0, none⟩ = some (.int .i64 t) := by simp [World.cell?, hobj]
    have s0 : V.cell? ⟨Bs, 0, none⟩ = some (.int .i64 lo) := by simp [World.cell?, hi'.sp]
    have s1 : V.cell? ⟨Bs, 1, none⟩ = some (.int .i64 hi) := by simp [World.cell?, hi'.sp]
    have n0 := hi'.ne.cell
    have hzv := hi'.size
    have hbt := HBAD.out t
    have e1 := hi'.r0.cell
    have e1' := hi'.r0.frozen
    have e2 := (hi'.r1.other (B' := w.heap.size + 1 + 1 + 1) (by omega) (.int .i64 q)).cell
    have e2' := (hi'.r1.other (B' := w.heap.size + 1 + 1 + 1) (by omega) (.int .i64 q)).frozen
    have HI := hid hi'
    have HN := hid hN6
    clear hobj hN6 hsz3
    have stopped : l.bad t = true → KeepsFrom w4.heap.size V ((V.setCell ⟨w.heap.size + 1 + 1 + 1, 0, none⟩ (.int .i64 q)).setCell ⟨w.heap.size + 1 + 1 + 1 + 1, 0, none⟩ (.int .i64 0)) ∧ KeepsX l w.heap.size (Bs + 6) w .ret (pre ++ [(q, t, b)]) ((V.setCell ⟨w.heap.size + 1 + 1 + 1, 0, none⟩ (.int .i64 q)).setCell ⟨w.heap.size + 1 + 1 + 1 + 1, 0, none⟩ (.int .i64 0)) := fun hb => by
      have hi' := HI.out
      refine ⟨?_, rfl, ⟨(q, t, b), pre, rfl, hi'.good, hb, (hi'.r0.set _).other (by omega) _⟩, (hi'.r1.other (by omega) _).set _, (hi'.below.setCell (by simp; omega) _).setCell (by simp; omega) _, ?_⟩
      · exact KeepsFrom.trans (.of_grownBy (grownBy_setCell' _ _ _) (by intro j hj; cases hj; have := HN.out; omega)) (.of_grownBy (grownBy_setCell' _ _ _) (by intro j hj; cases hj; have := HN.out; omega))
      · exact Nat.le_trans hzv (Nat.le_trans (grownBy_setCell' V (w.heap.size + 1 + 1 + 1) (.int .i64 q)).size (grownBy_setCell' _ (w.heap.size + 1 + 1 + 1 + 1) (.int .i64 0)).size)
    have HST := hid stopped
    clear stopped
    rcases HER.out with rfl | rfl
    · by_cases hin : lo ≤ t ∧ t ≤ hi
      · have hd : decide (lo ≤ t ∧ t ≤ hi) = true := decide_eq_true hin
        have hg : l.bad t = false := by rw [hbt]; simp [hin]
        have HG := hid hg
        clear hbt hg hin
        gi_wp2_with (refine ⟨trivial, ?_⟩; gi_at_call 53; refine (inWideRound l1 (within_any _ _ _ _)).mono ?_; rintro e w' ⟨rfl, rfl⟩)
        refine ⟨KeepsFrom.refl _ _, Kept.refl _ _, fun x hx => ?_, HI.out.r0, HI.out.r1, HI.out.sp, HI.out.ne, HI.out.below, HI.out.size⟩
        rcases List.mem_append.1 hx with hx | hx
        · exact HI.out.good x hx
        · rw [List.mem_singleton.1 hx]; exact HG.out
      · have hd : decide (lo ≤ t ∧ t ≤ hi) = false := decide_eq_false hin
        have hg : l.bad t = true := by rw [hbt, ← Bool.decide_and, hd]; simp
        have HG := hid hg
        clear hbt hg hin
        gi_wp2_with (refine ⟨trivial, ?_⟩; gi_at_call 53; refine (inWideRound l1 (within_any _ _ _ _)).mono ?_; rintro e w' ⟨rfl, rfl⟩)
        exact HST.out HG.out
    · have hg : l.bad t = true := by rw [hbt]; simp
      have HG := hid hg
      clear hbt hg
      gi_wp2
      refine ⟨trivial, ?_⟩
      gi_wp2
      exact HST.out HG.out
  case done =>
    rintro D ys V hD hys hi' hdef
    have e1 := hi'.r0.cell
    have e1' := hi'.r0.frozen
    have e2 := (hi'.r1.other (B' := w.heap.size + 1 + 1 + 1) (by omega) (.int .i64 (-1))).cell
    have e2' := (hi'.r1.other (B' := w.heap.size + 1 + 1 + 1) (by omega) (.int .i64 (-1))).frozen
    have HI := hid hi'
    have y1 := (hi'.r0.set (.int .i64 (-1))).other (B' := w.heap.size + 1 + 1 + 1 + 1) (by omega) (.int .i64 0)
    have y2 := (hi'.r1.other (B' := w.heap.size + 1 + 1 + 1) (by omega) (.int .i64 (-1))).set (.int .i64 0)
    have yb := (hi'.below.setCell (p := ⟨w.heap.size + 1 + 1 + 1, 0, none⟩) (by simp; omega) (.int .i64 (-1))).setCell (p := ⟨w.heap.size + 1 + 1 + 1 + 1, 0, none⟩) (by simp; omega) (.int .i64 0)
    have hd3 := ((KeepsOthers.setCell V ⟨w.heap.size + 1 + 1 + 1, 0, none⟩ (.int .i64 (-1))).trans (KeepsOthers.setCell _ ⟨w.heap.size + 1 + 1 + 1 + 1, 0, none⟩ (.int .i64 0))).same D _ hdef rfl
    have hf : (yieldsTo o (beginL slo h (shi - slo + 1).toNat) (M + 1)).find? (fun x => l.bad x.2.1) = none := by
      rw [List.find?_eq_none]
      intro x hx
      rw [← hys] at hx
      rw [hi'.good x hx]; simp
    obtain rfl : kv = -1 := by rw [← HKV.out, hf]
    have Y1 := hid y1
    have Y2 := hid y2
    have YB := hid yb
    have HD3 := hid hd3
    have HN := hid hN6
    clear hi' y1 y2 yb hd3 hf hys hdef hN6 hsz3
    gi_wp2
    obtain ⟨z1, z2, zz⟩ := keeps_end (w := w) (D := D) rfl (by have := HN.out; omega) Y1.out Y2.out YB.out
    refine ⟨by simp, .inl ⟨_, _, rfl, run_takeDeferred HD3.out, ?_⟩⟩
    refine ⟨val2 (-1) 0, ?_, zz⟩
    simp [results, Try.f38, go_sem, z1, z2]
  case stop =>
    rintro D c pre V hD hpre ⟨rfl, ⟨⟨q, t, b⟩, p, rfl, g1, g2, g3⟩, g4, g5, g6⟩ hdef
    have hf : (yieldsTo o (beginL slo h (shi - slo + 1).toNat) (M + 1)).find? (fun x => l.bad x.2.1) = some (q, t, b) := by
      obtain ⟨ys, rfl, ⟨r, hr⟩⟩ := hpre
      rw [← hr, List.append_assoc, List.find?_append]
      rw [List.find?_eq_none.2 (fun x hx => by rw [g1 x hx]; simp)]
      simp only at g2
      simp [g2]
    obtain rfl : kv = (q : Int) := by rw [← HKV.out, hf]
    have HN := hid hN6
    clear hf hpre hN6 hsz3
    gi_wp2
    obtain ⟨z1, z2, zz⟩ := keeps_end (w := w) (D := D) rfl (by have := HN.out; omega) g3 g4 g5
    refine ⟨by simp, .inl ⟨_, _, rfl, run_takeDeferred hdef, ?_⟩⟩
    refine ⟨val2 q 0, ?_, zz⟩
    simp [results, Try.f38, go_sem, z1, z2]

theorem Keeps_any (l : Ln) (o : Ov) (s : Int × Int) (h : Bool) (m : Int) (w : World) :
    Calls Try.prog 38 #[l.val, o.val, spanV s, .bool h, .int .i64 m] w (Ret w (val2 (if keepsErr l o s m = 0 then keepsOf l o s h m else 0) (keepsErr l o s m))) := by
  unfold keepsErr
  by_cases hl : l.Ok
  · rw [if_pos hl]
    by_cases he : ovErr o s m = 0
    · rw [if_pos he, he]
      have hS := fun W => Safe_any l W
      unfold Ln.safeV at hS
      rw [if_pos hl] at hS
      cases hf : l.ends.2.2 with
      | true =>
        rw [hf, if_pos rfl] at hS
        exact callsIn_wide.1 (Keeps_in l hl o s h m he l.ends.1 l.ends.2.1 0 (fun t => by unfold Ln.bad; rw [hf]; simp) (.inl rfl) hS w)
      | false =>
        rw [hf, if_neg (by simp)] at hS
        exact callsIn_wide.1 (Keeps_in l hl o s h m he 0 0 9 (fun t => by unfold Ln.bad; rw [hf]; simp) (.inr rfl) hS w)
    · rw [if_neg he]
      exact Keeps_oven l hl o s h m _ rfl he w
  · rw [if_neg hl, if_neg (by omega)]
    exact Keeps_no l hl o s h m w
theorem Oven_any (o : Ov) (s : Int × Int) (h : Bool) (m : Int) (w : World) :
    Calls Try.prog 36 #[o.val, spanV s, .bool h, .int .i64 m] w (Ret w (.tuple #[.agg #[.int .i64 (if ovErr o s m = 0 then (ovEnds o s h m).1 else 0), .int .i64 (if ovErr o s m = 0 then (ovEnds o s h m).2.1 else 0)], .int .i64 (ovErr o s m)])) := by
  by_cases he : ovErr o s m = 0
  · rw [if_pos he, if_pos he, he]; exact Oven_ok o s h m he w
  · rw [if_neg he, if_neg he]; exact Oven_err o s h m he w
end Go.Proofs.Ytlocdkjnefmiaaa
namespace Go.Proofs.Ytlocdkjnefmiaaa
set_option linter.unusedVariables false
set_option linter.unusedSimpArgs false

theorem safe_iff {l : Ln} (h : l.Ok) (t : Int) : l.safe t ↔ -l.N ≤ l.late t ∧ l.late t ≤ l.N := by
  obtain ⟨_, _, h3, _, _, h6⟩ := h
  unfold Ln.safe Ln.shift
  have hp : 2 * l.N < l.P := by omega
  constructor
  · intro g
    split at g
    · cases g
    · have e : (l.late t + l.N) / l.P = 0 := by simpa using g
      have := Int.mul_ediv_add_emod (l.late t + l.N) l.P
      rw [e] at this
      have := Int.emod_nonneg (l.late t + l.N) (show l.P ≠ 0 by omega)
      omega
  · intro ⟨a, b⟩
    have e1 : (l.late t + l.N) % l.P = l.late t + l.N := Int.emod_eq_of_lt (by omega) (by omega)
    have e2 : (l.late t + l.N) / l.P = 0 := Int.ediv_eq_zero_of_lt (by omega) (by omega)
    rw [e1, e2, if_neg (by omega)]
theorem late_between {l : Ln} {a t b : Int} (h1 : a ≤ t) (h2 : t ≤ b) : (l.late a ≤ l.late t ∧ l.late t ≤ l.late b) ∨ (l.late b ≤ l.late t ∧ l.late t ≤ l.late a) := by
  unfold Ln.late
  by_cases hs : 0 ≤ l.S
  · have := Int.mul_le_mul_of_nonneg_left h1 hs
    have := Int.mul_le_mul_of_nonneg_left h2 hs
    left; omega
  · have := Int.mul_le_mul_of_nonpos_left (show l.S ≤ 0 by omega) h1
    have := Int.mul_le_mul_of_nonpos_left (show l.S ≤ 0 by omega) h2
    right; omega
theorem safe_between {l : Ln} (h : l.Ok) {a t b : Int} (h1 : a ≤ t) (h2 : t ≤ b) (ha : l.safe a) (hb : l.safe b) : l.safe t := by
  rw [safe_iff h] at *
  rcases late_between (l := l) h1 h2 with h | h <;> omega
theorem ends_mem (xs : List Int) : ((endsOf xs).2.2 = true ↔ xs ≠ []) ∧ ((endsOf xs).2.2 = true → (endsOf xs).1 ∈ xs ∧ (endsOf xs).2.1 ∈ xs ∧ ∀ x ∈ xs, (endsOf xs).1 ≤ x ∧ x ≤ (endsOf xs).2.1) := by
  have : ∀ n, ∀ xs : List Int, xs.length = n → ((endsOf xs).2.2 = true ↔ xs ≠ []) ∧ ((endsOf xs).2.2 = true → (endsOf xs).1 ∈ xs ∧ (endsOf xs).2.1 ∈ xs ∧ ∀ x ∈ xs, (endsOf xs).1 ≤ x ∧ x ≤ (endsOf xs).2.1) := by
    intro n
    induction n with
    | zero => intro xs hx; have : xs = [] := List.length_eq_zero_iff.1 hx
              subst this; exact ⟨by simp [endsOf], fun h => by cases h⟩
    | succ n ih =>
      intro xs hx
      have hne : xs ≠ [] := by intro e; subst e; simp at hx
      rw [← List.dropLast_concat_getLast hne]
      generalize xs.getLast hne = v
      have ih := ih xs.dropLast (by simp; omega)
      generalize xs.dropLast = ys at *
      rw [endsOf_snoc]
      unfold endsStep
      by_cases e : (endsOf ys).2.2 = true
      · obtain ⟨m1, m2, m3⟩ := ih.2 e
        rw [if_pos e]
        refine ⟨by simp, fun _ => ?_⟩
        have g1 := m3 _ m1
        refine ⟨?_, ?_, ?_⟩
        · simp only; split <;> simp [m1]
        · simp only; split <;> simp [m2]
        · intro x hx
          rw [List.mem_append] at hx
          simp only
          rcases hx with hx | hx
          · have := m3 x hx; constructor <;> split <;> omega
          · simp at hx; subst hx; constructor <;> split <;> omega
      · rw [if_neg e]
        have hy : ys = [] := by
          by_cases hy : ys = []
          · exact hy
          · exact absurd (ih.1.2 hy) e
        subst hy
        simp
  exact this _ xs rfl
theorem mem_safeTo {l : Ln} {t : Int} : t ∈ safeTo l 1501 ↔ (-500 ≤ t ∧ t ≤ 1000) ∧ l.safe t := by
  unfold safeTo
  rw [List.mem_filter, List.mem_map]
  constructor
  · rintro ⟨⟨j, hj, rfl⟩, h⟩
    have := List.mem_range.1 hj
    exact ⟨by omega, by simpa using h⟩
  · rintro ⟨h, g⟩
    exact ⟨⟨(t + 500).toNat, List.mem_range.2 (by omega), by omega⟩, by simpa using g⟩
/-- A temperature is in the span of Safe just if the line is safe there. -/
theorem safe_span {l : Ln} (h : l.Ok) {t : Int} (ht : -500 ≤ t ∧ t ≤ 1000) : l.safe t ↔ l.ends.2.2 = true ∧ l.ends.1 ≤ t ∧ t ≤ l.ends.2.1 := by
  obtain ⟨e1, e2⟩ := ends_mem (safeTo l 1501)
  have hM := @mem_safeTo l
  unfold Ln.ends
  generalize safeTo l 1501 = xs at *
  constructor
  · intro g
    have hm := hM.2 ⟨ht, g⟩
    have hf := e1.2 (List.ne_nil_of_mem hm)
    exact ⟨hf, (e2 hf).2.2 t hm⟩
  · rintro ⟨hf, a, b⟩
    obtain ⟨m1, m2, _⟩ := e2 hf
    exact safe_between h a b (hM.1 m1).2 (hM.1 m2).2
end Go.Proofs.Ytlocdkjnefmiaaa
namespace Go.Proofs.Ytlocdkjnefmiaaa
set_option linter.unusedVariables false
set_option linter.unusedSimpArgs false

/-- The climate can be after so many minutes. -/
inductive CanBe (o : Ov) (s : Int × Int) (h : Bool) : Nat → Cl → Prop
  | start {t : Int} (h1 : s.1 ≤ t) (h2 : t ≤ s.2) : CanBe o s h 0 (t, h)
  | step {j : Nat} {c d : Cl} (h1 : CanBe o s h j c) (h2 : d ∈ stepsOf o c) : CanBe o s h (j + 1) d
theorem CanBe.wider {o : Ov} {s s' : Int × Int} {h : Bool} {j : Nat} {c : Cl} (hc : CanBe o s h j c) (h1 : s'.1 ≤ s.1) (h2 : s.2 ≤ s'.2) : CanBe o s' h j c := by
  induction hc with
  | start a b => exact .start (by omega) (by omega)
  | step _ b ih => exact .step ih b
theorem mem_spread {lo : Int} {h : Bool} {k : Nat} {c : Cl} : c ∈ spread lo h k ↔ lo ≤ c.1 ∧ c.1 < lo + (k : Int) ∧ c.2 = h := by
  unfold spread
  rw [List.mem_map]
  constructor
  · rintro ⟨j, hj, rfl⟩
    have := List.mem_range.1 hj
    exact ⟨by simp only; omega, by simp only; omega, rfl⟩
  · rintro ⟨a, b, e⟩
    obtain ⟨t, g⟩ := c
    simp only at a b e
    exact ⟨(t - lo).toNat, List.mem_range.2 (by omega), by rw [e]; congr 1; omega⟩
theorem mem_steps {o : Ov} {c d : Cl} : d ∈ stepsOf o c ↔ lowAt o c ≤ d.1 ∧ d.1 ≤ highAt o c ∧ d.2 = heatsAt o c := by
  unfold stepsOf manyAt
  rw [mem_spread]
  constructor
  · rintro ⟨a, b, e⟩; exact ⟨a, by omega, e⟩
  · rintro ⟨a, b, e⟩; exact ⟨a, by omega, e⟩
theorem mem_add1 {st : Cls} {c d : Cl} : (d ∈ (add1 st c).1 ↔ d ∈ st.1 ∨ (d = c ∧ c ∉ st.2)) ∧ (d ∈ (add1 st c).2 ↔ d ∈ st.2 ∨ d = c) := by
  unfold add1
  split
  · rename_i h
    refine ⟨⟨.inl, fun g => g.elim id (fun g => absurd h g.2)⟩, ⟨.inl, fun g => g.elim id (fun g => g ▸ h)⟩⟩
  · rename_i h
    simp [h]
theorem mem_meet (cs : List Cl) : ∀ (st : Cls) (d : Cl), (d ∈ (meetL st cs).1 ↔ d ∈ st.1 ∨ (d ∈ cs ∧ d ∉ st.2)) ∧ (d ∈ (meetL st cs).2 ↔ d ∈ st.2 ∨ d ∈ cs) := by
  induction cs with
  | nil => intro st d; simp [meetL]
  | cons c cs ih =>
    intro st d
    have h := ih (add1 st c) d
    have a := @mem_add1 st c d
    have e : meetL st (c :: cs) = meetL (add1 st c) cs := rfl
    rw [e, h.1, h.2, a.1, a.2]
    constructor
    · constructor
      · rintro ((g | ⟨rfl, g⟩) | ⟨g, k⟩)
        · exact .inl g
        · exact .inr ⟨by simp, g⟩
        · exact .inr ⟨by simp [g], fun x => k (.inl x)⟩
      · rintro (g | ⟨g, k⟩)
        · exact .inl (.inl g)
        · by_cases e : d = c
          · subst e; exact .inl (.inr ⟨rfl, k⟩)
          · rcases List.mem_cons.1 g with g | g
            · exact absurd g e
            · exact .inr ⟨g, fun x => x.elim k e⟩
    · simp only [List.mem_cons]
      constructor
      · rintro ((g | g) | g)
        · exact .inl g
        · exact .inr (.inl g)
        · exact .inr (.inr g)
      · rintro (g | g | g)
        · exact .inl (.inl g)
        · exact .inl (.inr g)
        · exact .inr g
/-- The first k minutes as the code follows them. -/
theorem state_is (o : Ov) (s : Int × Int) (h : Bool) (K : Nat) (hK : s.1 + (K : Int) = s.2 + 1) : ∀ (k : Nat) (c : Cl),
    (c ∈ (stateAt o (beginL s.1 h K) k).1 ↔ CanBe o s h k c ∧ ∀ j, j < k → ¬ CanBe o s h j c) ∧ (c ∈ (stateAt o (beginL s.1 h K) k).2 ↔ ∃ j, j ≤ k ∧ CanBe o s h j c)
  | 0, c => by
    have h0 : CanBe o s h 0 c ↔ s.1 ≤ c.1 ∧ c.1 ≤ s.2 ∧ c.2 = h := by
      constructor
      · intro g; cases g with | start a b => exact ⟨a, b, rfl⟩
      · rintro ⟨a, b, e⟩; obtain ⟨t, g⟩ := c; simp only at a b e; subst e; exact .start a b
    have hm := mem_meet (spread s.1 h K) ([], []) c
    rw [mem_spread] at hm
    show (c ∈ (beginL s.1 h K).1 ↔ _) ∧ (c ∈ (beginL s.1 h K).2 ↔ _)
    unfold beginL
    rw [hm.1, hm.2, h0]
    constructor
    · constructor
      · rintro (g | ⟨⟨a, b, e⟩, _⟩)
        · cases g
        · exact ⟨⟨a, by omega, e⟩, fun j hj => by omega⟩
      · rintro ⟨⟨a, b, e⟩, _⟩; exact .inr ⟨⟨a, by omega, e⟩, by simp⟩
    · constructor
      · rintro (g | ⟨a, b, e⟩)
        · cases g
        · exact ⟨0, Nat.le_refl _, h0.2 ⟨a, by omega, e⟩⟩
      · rintro ⟨j, hj, g⟩
        obtain rfl : j = 0 := by omega
        obtain ⟨a, b, e⟩ := h0.1 g
        exact .inr ⟨a, by omega, e⟩
  | k + 1, d => by
    have ih := state_is o s h K hK k
    have hm := mem_meet ((stateAt o (beginL s.1 h K) k).1.flatMap (stepsOf o)) ([], (stateAt o (beginL s.1 h K) k).2) d
    show (d ∈ (nextL o (stateAt o (beginL s.1 h K) k)).1 ↔ _) ∧ (d ∈ (nextL o (stateAt o (beginL s.1 h K) k)).2 ↔ _)
    unfold nextL
    rw [hm.1, hm.2]
    have hnew : d ∈ (stateAt o (beginL s.1 h K) k).1.flatMap (stepsOf o) → CanBe o s h (k + 1) d := by
      intro g
      obtain ⟨c, hc, hd⟩ := List.mem_flatMap.1 g
      exact .step ((ih c).1.1 hc).1 hd
    have hstep : CanBe o s h (k + 1) d → d ∈ (stateAt o (beginL s.1 h K) k).1.flatMap (stepsOf o) ∨ ∃ j, j ≤ k ∧ CanBe o s h j d := by
      intro g
      cases g with
      | @step _ c _ h1 h2 =>
        by_cases hmin : ∀ j, j < k → ¬ CanBe o s h j c
        · exact .inl (List.mem_flatMap.2 ⟨c, (ih c).1.2 ⟨h1, hmin⟩, h2⟩)
        · have : ∃ j, j < k ∧ CanBe o s h j c := by
            apply Classical.byContradiction
            intro x
            exact hmin (fun j hj g => x ⟨j, hj, g⟩)
          obtain ⟨j, hj, g⟩ := this
          exact .inr ⟨j + 1, hj, .step g h2⟩
    constructor
    · constructor
      · rintro (g | ⟨g, k1⟩)
        · cases g
        · exact ⟨hnew g, fun j hj x => k1 ((ih d).2.2 ⟨j, by omega, x⟩)⟩
      · rintro ⟨g, k1⟩
        refine .inr ⟨?_, fun x => ?_⟩
        · rcases hstep g with g | ⟨j, hj, x⟩
          · exact g
          · exact absurd x (k1 j (by omega))
        · obtain ⟨j, hj, x⟩ := (ih d).2.1 x
          exact k1 j (by omega) x
    · constructor
      · rintro (g | g)
        · obtain ⟨j, hj, x⟩ := (ih d).2.1 g; exact ⟨j, by omega, x⟩
        · exact ⟨k + 1, Nat.le_refl _, hnew g⟩
      · rintro ⟨j, hj, g⟩
        by_cases e : j = k + 1
        · subst e
          rcases hstep g with g | x
          · exact .inr g
          · exact .inl ((ih d).2.2 x)
        · exact .inl ((ih d).2.2 ⟨j, by omega, g⟩)
theorem first_of {P : Nat → Prop} : ∀ (n : Nat), P n → ∃ k, k ≤ n ∧ P k ∧ ∀ j, j < k → ¬ P j := by
  intro n
  induction n using Nat.strongRecOn with
  | ind n ih =>
    intro hn
    by_cases h : ∃ j, j < n ∧ P j
    · obtain ⟨j, hj, hp⟩ := h
      obtain ⟨k, hk, a, b⟩ := ih j hj hp
      exact ⟨k, by omega, a, b⟩
    · exact ⟨n, Nat.le_refl _, hn, fun j hj hp => h ⟨j, hj, hp⟩⟩
theorem mem_yields {o : Ov} {s : Int × Int} {h : Bool} {K : Nat} (hK : s.1 + (K : Int) = s.2 + 1) {n : Nat} {x : Nat × Cl} : x ∈ yieldsTo o (beginL s.1 h K) n ↔ x.1 < n ∧ CanBe o s h x.1 x.2 ∧ ∀ j, j < x.1 → ¬ CanBe o s h j x.2 := by
  unfold yieldsTo
  rw [List.mem_flatMap]
  obtain ⟨j, c⟩ := x
  simp only
  constructor
  · rintro ⟨i, hi, g⟩
    obtain ⟨c', hc, e⟩ := List.mem_map.1 g
    obtain ⟨rfl, rfl⟩ := Prod.mk.inj e
    exact ⟨List.mem_range.1 hi, ((state_is o s h K hK i c').1.1 hc)⟩
  · rintro ⟨a, b⟩
    exact ⟨j, List.mem_range.2 a, List.mem_map.2 ⟨c, (state_is o s h K hK j c).1.2 b, rfl⟩⟩

variable {o : Ov} {s : Int × Int} {h : Bool} {m : Int}
theorem ovAll_K (he : ovErr o s m = 0) : s.1 + (((s.2 - s.1 + 1).toNat : Nat) : Int) = s.2 + 1 := by
  obtain ⟨_, ⟨_, _, h3⟩, _⟩ := ovErr_ok he
  omega
/-- A climate that can be is among those that the code looks at. -/
theorem ovAll_mem (he : ovErr o s m = 0) {j : Nat} {c : Cl} (hj : (j : Int) ≤ m) (hc : CanBe o s h j c) : ∃ k, k ≤ j ∧ (k, c) ∈ ovAll o s h m := by
  obtain ⟨k, hk, a, b⟩ := first_of (P := fun j => CanBe o s h j c) j hc
  exact ⟨k, hk, (mem_yields (ovAll_K he)).2 ⟨by simp only; omega, a, b⟩⟩
theorem ovAll_can (he : ovErr o s m = 0) {x : Nat × Cl} (hx : x ∈ ovAll o s h m) : (x.1 : Int) ≤ m ∧ CanBe o s h x.1 x.2 := by
  obtain ⟨a, b, _⟩ := (mem_yields (ovAll_K he)).1 hx
  have := (ovErr_ok he).2.2
  exact ⟨by omega, b⟩
theorem ends_of_temp (he : ovErr o s m = 0) {j : Nat} {c : Cl} (hj : (j : Int) ≤ m) (hc : CanBe o s h j c) : (ovEnds o s h m).1 ≤ c.1 ∧ c.1 ≤ (ovEnds o s h m).2.1 := by
  obtain ⟨k, _, hk⟩ := ovAll_mem he hj hc
  have hm : c.1 ∈ tempsOf (ovAll o s h m) := List.mem_map.2 ⟨_, hk, rfl⟩
  obtain ⟨e1, e2⟩ := ends_mem (tempsOf (ovAll o s h m))
  exact (e2 (e1.2 (List.ne_nil_of_mem hm))).2.2 _ hm
/-- The ends are temperatures that there can be. -/
theorem ends_can (he : ovErr o s m = 0) : (∃ (j : Nat) (b : Bool), (j : Int) ≤ m ∧ CanBe o s h j ((ovEnds o s h m).1, b)) ∧ ∃ (j : Nat) (b : Bool), (j : Int) ≤ m ∧ CanBe o s h j ((ovEnds o s h m).2.1, b) := by
  obtain ⟨_, ⟨_, _, h3⟩, h4, _⟩ := ovErr_ok he
  obtain ⟨k, _, hk⟩ := ovAll_mem (h := h) he (j := 0) (c := (s.1, h)) (by omega) (.start (Int.le_refl _) h3)
  obtain ⟨e1, e2⟩ := ends_mem (tempsOf (ovAll o s h m))
  have hf := e1.2 (List.ne_nil_of_mem (List.mem_map.2 ⟨_, hk, rfl⟩))
  obtain ⟨m1, m2, _⟩ := e2 hf
  obtain ⟨x, hx, ex⟩ := List.mem_map.1 m1
  obtain ⟨y, hy, ey⟩ := List.mem_map.1 m2
  refine ⟨⟨x.1, x.2.2, (ovAll_can he hx).1, ?_⟩, ⟨y.1, y.2.2, (ovAll_can he hy).1, ?_⟩⟩
  · unfold ovEnds; rw [← ex]; exact (ovAll_can he hx).2
  · unfold ovEnds; rw [← ey]; exact (ovAll_can he hy).2
theorem yields_sorted (o : Ov) (s0 : Cls) : ∀ n, (yieldsTo o s0 n).Pairwise (fun x y => x.1 ≤ y.1) ∧ ∀ x ∈ yieldsTo o s0 n, x.1 < n
  | 0 => by simp [yieldsTo]
  | n + 1 => by
    obtain ⟨a, b⟩ := yields_sorted o s0 n
    rw [yieldsTo_succ]
    refine ⟨List.pairwise_append.2 ⟨a, ?_, ?_⟩, ?_⟩
    · rw [List.pairwise_map]; exact List.pairwise_of_forall (fun _ _ => Nat.le_refl _)
    · intro x hx y hy
      obtain ⟨c, _, rfl⟩ := List.mem_map.1 hy
      exact Nat.le_of_lt (b x hx)
    · intro x hx
      rcases List.mem_append.1 hx with hx | hx
      · have := b x hx; omega
      · obtain ⟨c, _, rfl⟩ := List.mem_map.1 hx; simp
/-- What Keeps says: -1, and all that can be is safe; or the first minute after which something that can be is not. -/
theorem keeps_is (l : Ln) (he : ovErr o s m = 0) :
    (keepsOf l o s h m = -1 ∧ ∀ (j : Nat) c, (j : Int) ≤ m → CanBe o s h j c → l.bad c.1 = false) ∨
    (∃ k : Nat, keepsOf l o s h m = (k : Int) ∧ (k : Int) ≤ m ∧ (∃ c, CanBe o s h k c ∧ l.bad c.1 = true) ∧ ∀ j c, j < k → CanBe o s h j c → l.bad c.1 = false) := by
  unfold keepsOf
  cases hf : (ovAll o s h m).find? (fun x => l.bad x.2.1) with
  | none =>
    refine .inl ⟨rfl, fun j c hj hc => ?_⟩
    obtain ⟨k, _, hk⟩ := ovAll_mem he hj hc
    have := List.find?_eq_none.1 hf _ hk
    simpa using this
  | some x =>
    have hx := List.mem_of_find?_eq_some hf
    have hb := List.find?_some hf
    obtain ⟨a, b⟩ := ovAll_can he hx
    refine .inr ⟨x.1, rfl, a, ⟨x.2, b, hb⟩, fun j c hj hc => ?_⟩
    obtain ⟨k, hk, hk2⟩ := ovAll_mem he (by omega) hc
    obtain ⟨ys, zs, e, hno⟩ := (List.find?_eq_some_iff_append.1 hf).2
    rw [e] at hk2
    have hs := (yields_sorted o (beginL s.1 h (s.2 - s.1 + 1).toNat) (m.toNat + 1)).1
    have e2 : yieldsTo o (beginL s.1 h (s.2 - s.1 + 1).toNat) (m.toNat + 1) = ys ++ x :: zs := e
    rw [e2] at hs
    rcases List.mem_append.1 hk2 with g | g
    · have := hno _ g; simpa using this
    · rcases List.mem_cons.1 g with g | g
      · have := congrArg Prod.fst g; simp only at this; omega
      · have := (List.pairwise_cons.1 (List.pairwise_append.1 hs).2.1).1 _ g
        simp only at this; omega
end Go.Proofs.Ytlocdkjnefmiaaa
