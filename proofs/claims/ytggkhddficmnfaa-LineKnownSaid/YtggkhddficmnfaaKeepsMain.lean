/-
  Keeps: where there is no error.
-/
import Derived.Test.YtggkhddficmnfaaKeeps
namespace Go.Proofs.Ytggkhddficmnfaa
open Go.RowKit Go.Shelf
set_option linter.unusedVariables false
set_option linter.unusedSimpArgs false
attribute [local go_sem] Oper.semAt_some

theorem keeps_end {w WF : World} {s D : Nat} {n : Int} (hs : w.heap.size = s) (hD : s + 4 < D) (b1 : Boxed WF (s + 1 + 1 + 1) 3 (.int .i64 n)) (b2 : Boxed WF (s + 1 + 1 + 1 + 1) 26 (.int .i64 0)) (hB : Below s w WF) :
    (WF.putObj D (.deferred none)).cell? ⟨s + 1 + 1 + 1, 0, none⟩ = some (.int .i64 n) ∧ (WF.putObj D (.deferred none)).cell? ⟨s + 1 + 1 + 1 + 1, 0, none⟩ = some (.int .i64 0) ∧ Ret w (val2 n 0) (.returned (val2 n 0)) (WF.putObj D (.deferred none)) := by
  have gr := grownBy_putObj' WF D (.deferred none)
  refine ⟨(b1.kept gr (fun e => by cases e; omega)).cell, (b2.kept gr (fun e => by cases e; omega)).cell, rfl, ?_⟩
  rw [hs]; exact hB.grown gr (by have := hB.size; omega) (fun k e => by cases e; omega)

/-- Between two rounds. -/
structure KeepsI (l : Ln) (lo hi er : Int) (s Bs N0 : Nat) (w : World) (pre : List (Nat × Cl)) (V : World) : Prop where
  good : ∀ x ∈ pre, l.bad x.2.1 = false
  r0 : Boxed V (s + 1 + 1 + 1) 3 (.int .i64 0)
  r1 : Boxed V (s + 1 + 1 + 1 + 1) 26 (.int .i64 0)
  sp : V.heap[Bs]? = some (.cells #[.int .i64 lo, .int .i64 hi] 31 (0, 0))
  ne : Boxed V (Bs + 1) 26 (.int .i64 er)
  below : Below s w V
  size : N0 ≤ V.heap.size
structure KeepsX (l : Ln) (s N0 : Nat) (w : World) (c : Code) (pre : List (Nat × Cl)) (V : World) : Prop where
  ret : c = .ret
  found : ∃ x p, pre = p ++ [x] ∧ (∀ y ∈ p, l.bad y.2.1 = false) ∧ l.bad x.2.1 = true ∧ Boxed V (s + 1 + 1 + 1) 3 (.int .i64 (x.1 : Int))
  r1 : Boxed V (s + 1 + 1 + 1 + 1) 26 (.int .i64 0)
  below : Below s w V
  size : N0 ≤ V.heap.size
theorem KeepsI.grown {l : Ln} {lo hi er : Int} {s Bs N0 : Nat} {w A B : World} {pre : List (Nat × Cl)} {row : Option Nat} (h : KeepsI l lo hi er s Bs N0 w pre A) (hs : s ≤ w.heap.size) (h1 : s + 5 ≤ Bs) (h2 : Bs + 2 ≤ N0) (hg : A.grownBy B row) (hr : ∀ r, row = some r → N0 ≤ r) : KeepsI l lo hi er s Bs N0 w pre B := by
  have hz := h.size
  refine ⟨h.good, h.r0.kept hg (fun e => by have := hr _ e.symm; omega), h.r1.kept hg (fun e => by have := hr _ e.symm; omega), (hg.block Bs (by omega) (fun e => by have := hr _ e.symm; omega)).trans h.sp, h.ne.kept hg (fun e => by have := hr _ e.symm; omega), h.below.grown hg (by omega) (fun k e => by have := hr _ e; omega), Nat.le_trans hz hg.size⟩
theorem KeepsX.grown {l : Ln} {s N0 : Nat} {w A B : World} {c : Code} {pre : List (Nat × Cl)} {row : Option Nat} (h : KeepsX l s N0 w c pre A) (h1 : s + 5 ≤ N0) (hg : A.grownBy B row) (hr : ∀ r, row = some r → N0 ≤ r) : KeepsX l s N0 w c pre B := by
  have hz := h.size
  obtain ⟨x, p, e, g1, g2, g3⟩ := h.found
  exact ⟨h.ret, ⟨x, p, e, g1, g2, g3.kept hg (fun e => by have := hr _ e.symm; omega)⟩, h.r1.kept hg (fun e => by have := hr _ e.symm; omega), h.below.grown hg (by omega) (fun k e => by have := hr _ e; omega), Nat.le_trans hz hg.size⟩

set_option maxRecDepth 100000 in
set_option maxHeartbeats 4000000 in
theorem Keeps_in (l : Ln) (hl : l.Ok) (o : Ov) (s0 : Int × Int) (h : Bool) (m : Int) (he : ovErr o s0 m = 0) (lo hi er : Int) (hbad : ∀ t, l.bad t = !(decide (er = 0) && (decide (lo ≤ t) && decide (t ≤ hi)))) (her : er = 0 ∨ er = 9)
    (hS : ∀ W, Calls Try.prog 27 #[l.val] W (Ret W (.tuple #[.agg #[.int .i64 lo, .int .i64 hi], .int .i64 er]))) (w : World) :
    CallsIn Fence.wide 10 Try.prog 38 #[l.val, o.val, spanV s0, .bool h, .int .i64 m] w (Ret w (val2 (keepsOf l o s0 h m) 0)) := by
  obtain ⟨ho, ⟨hlo, hhi, hle⟩, hm0, hm⟩ := ovErr_ok he
  obtain ⟨slo, shi⟩ := s0
  obtain ⟨M, rfl⟩ : ∃ M : Nat, m = (M : Int) := ⟨m.toNat, by omega⟩
  have hoe := fun W => ovenError_any o (slo, shi) (M : Int) W
  rw [he] at hoe
  have HOE := hid hoe
  have HS := hid hS
  have hkd : keepsOf l o (slo, shi) h (M : Int) = match (yieldsTo o (beginL slo h (shi - slo + 1).toNat) (M + 1)).find? (fun x => l.bad x.2.1) with | some x => (x.1 : Int) | none => -1 := rfl
  obtain ⟨kv, hkv⟩ : ∃ kv, keepsOf l o (slo, shi) h (M : Int) = kv := ⟨_, rfl⟩
  rw [hkv]
  rw [hkd] at hkv
  have HKV := hid hkv
  have r0 := hid (keeps5_r0 w l o (slo, shi))
  have r1 := hid (keeps5_r1 w l o (slo, shi))
  have ro := hid (keeps5_o w l o (slo, shi))
  have rs := hid (keeps5_s w l o (slo, shi))
  have rl := hid (keeps5_ln w l o (slo, shi))
  have rb := hid (keeps5_below w l o (slo, shi))
  have HBAD := hid hbad
  have HER := hid her
  clear hoe he hS hkd hbad her hkv
  refine callsIn_of_wp_marks Try.func38 rfl trivial ?_ rfl
  simp only [Try.ntmps38, List.size_toArray, List.length_cons, List.length_nil, Nat.reduceAdd, Nat.reduceSub, Array.replicate_succ, Array.replicate_zero, List.push_toArray, List.append_toArray, List.nil_append, List.cons_append]
  gi_wp2_with (first
    | (refine ⟨trivial, ?_⟩; gi_at_call 25; refine (inWide (Check_ok l hl _)).mono ?_; rintro e w1 ⟨rfl, hb1⟩; have HB1 := hid (b_call hb1 rb.out); have hs0 := hid (boxed_call r0.out hb1); have hs1 := hid (boxed_call r1.out hb1); have HO1 := hid (ro.out.call hb1); have HL1 := hid (lnAt_call rl.out hb1); have p0 := cell_later hb1 rs.out.1; have p1 := cell_later hb1 rs.out.2; have HP1 := hid (And.intro p0 p1); obtain ⟨⟨o0, o1, o2⟩, o3, o4, o5⟩ := HO1.out; clear hb1 r0 r1 rb ro rs rl)
    | (refine ⟨trivial, ?_⟩; gi_at_call 78; refine (inWide (HOE.out _)).mono ?_; rintro e w2 ⟨rfl, hb2⟩; have HB2 := hid (b_call hb2 HB1.out); have ht0 := hid (boxed_call hs0.out hb2); have ht1 := hid (boxed_call hs1.out hb2); have HO2 := hid (HO1.out.call hb2); have HL2 := hid (lnAt_call HL1.out hb2); clear p0 p1 o0 o1 o2 o3 o4 o5; have p0 := cell_later hb2 HP1.out.1; have p1 := cell_later hb2 HP1.out.2; have HP2 := hid (And.intro p0 p1); obtain ⟨d0, d1, d2, d3, d4, d5⟩ := HL2.out; clear hb2 hs0 hs1 HO1 HL1 HP1 p0 p1)
    | (refine ⟨trivial, ?_⟩; gi_at_call 27; refine (inWide (HS.out _)).mono ?_; rintro e w3 ⟨rfl, hb3⟩; have HB3 := hid (b_call hb3 HB2.out); have HLT := hid (boxed_call ht1.out hb3).lt; have hb3' := hid (show Below w2.heap.size w2 ((w3.alloc (.cells #[.int .i64 lo, .int .i64 hi] 31)).alloc (.cells #[.int .i64 er] 26)) from b_alloc (b_alloc hb3 _) _); have hu0 := hid (boxed_call ht0.out hb3'.out); have hu1 := hid (boxed_call ht1.out hb3'.out); have HO3 := hid (HO2.out.call hb3'.out); clear d0 d1 d2 d3 d4 d5; have p0 := cell_later hb3'.out HP2.out.1; have p1 := cell_later hb3'.out HP2.out.2; obtain ⟨⟨o0, o1, o2⟩, o3, o4, o5⟩ := HO3.out; clear hb3 ht0 ht1 HO2 HL2 HP2)
    | (refine ⟨trivial, ?_⟩; gi_at_call 80; refine (inWide (climates_any o slo shi h M _)).mono ?_; rintro e w4 ⟨rfl, rfl⟩))
  have u0 := hu0.out
  have u1 := hu1.out
  obtain ⟨Bs, hBs⟩ : ∃ Bs, w3.heap.size = Bs := ⟨_, rfl⟩
  have hBlt : w.heap.size + 5 ≤ Bs := by have := HLT.out; omega
  have hBel := b_alloc (b_alloc HB3.out (.cells #[.int .i64 lo, .int .i64 hi] 31)) (.cells #[.int .i64 er] 26)
  have hsp : ((w3.alloc (.cells #[.int .i64 lo, .int .i64 hi] 31)).alloc (.cells #[.int .i64 er] 26)).heap[Bs]? = some (.cells #[.int .i64 lo, .int .i64 hi] 31 (0, 0)) := by
    rw [← hBs]; exact (Below.heap_alloc _ _ _ (by simp)).trans (World.alloc_heap_new w3 _)
  have hne : Boxed ((w3.alloc (.cells #[.int .i64 lo, .int .i64 hi] 31)).alloc (.cells #[.int .i64 er] 26)) (Bs + 1) 26 (.int .i64 er) := by
    have := Boxed.new (w3.alloc (.cells #[.int .i64 lo, .int .i64 hi] 31)) 26 (.int .i64 er)
    rwa [World.size_alloc, hBs] at this
  have hsz3 : ((w3.alloc (.cells #[.int .i64 lo, .int .i64 hi] 31)).alloc (.cells #[.int .i64 er] 26)).heap.size = Bs + 1 + 1 := by simp; omega
  obtain ⟨V3, hV3⟩ : ∃ V3, (w3.alloc (.cells #[.int .i64 lo, .int .i64 hi] 31)).alloc (.cells #[.int .i64 er] 26) = V3 := ⟨_, rfl⟩
  rw [hV3] at u0 u1 hBel hsp hne hsz3 ⊢
  rw [hBs]
  have hz4 := given4_size V3 o slo shi h M
  have hb4 := given4_below V3 o slo shi h M
  have hg4 := given4_is V3 o slo shi h M
  obtain ⟨w4, hw4⟩ : ∃ w4, given4 V3 o slo shi h M = w4 := ⟨_, rfl⟩
  rw [hw4] at hz4 hb4 hg4
  have hI0 : KeepsI l lo hi er w.heap.size Bs (Bs + 6) w [] w4 :=
    ⟨(fun x hx => by cases hx), boxed_call u0 hb4, boxed_call u1 hb4, (hb4.block Bs (by omega)).trans hsp, boxed_call hne hb4, b_call hb4 hBel, by omega⟩
  unfold given4 at hw4
  rw [hw4]
  rw [hsz3] at hg4
  clear hw4 hV3 u0 u1 hBel hsp hne hu0 hu1 hb3' HO3 o0 o1 o2 o3 o4 o5 p0 p1 HB1 HB2 HB3
  obtain ⟨N0, hN0⟩ : ∃ N0, w4.heap.size = N0 := ⟨_, rfl⟩
  have hN6 : N0 = Bs + 6 := by omega
  refine range_box (n := 10) (fun (x : Nat × Cl) B ts => (((ts.setIfInBounds 40 (.int .i64 (x.1 : Int))).setIfInBounds 41 (Cl.val x.2)).setIfInBounds 16 (.int .i64 (x.1 : Int))).setIfInBounds 17 (.pointer (some ⟨B, 0, none⟩))) (fun x => .cells #[.int .i64 x.2.1, .bool x.2.2] 116) (fun _ => rfl) rfl (by omega) (gf := 97)
    (lb := #[.pointer (some ⟨Bs + 1 + 1, 0, none⟩), .pointer (some ⟨Bs + 1 + 1 + 1, 0, none⟩), .pointer (some ⟨Bs + 1 + 1 + 1 + 1, 0, none⟩), .pointer (some ⟨Bs + 1 + 1 + 1 + 1 + 1, 0, none⟩)]) rfl trivial (enters_of Try.func97 (by kernel_rfl) rfl)
    (climates_seq o ho slo shi h M (shi - slo + 1).toNat hlo hhi (by omega) (by omega) (fun _ => False) 9 _ _ _ _ (by omega) w4 (fun k x => x.elim) hg4) (Kp := Kept (fun k => False ∨ k = w4.heap.size + 1)) (fun _ _ h => h) (fun h k => h.trans k)
    (fun V r o' hr => Kept.put _ _ _ (.inr rfl)) (Below.refl _ _) (fun _ => rfl)
    (KeepsI l lo hi er w.heap.size Bs (Bs + 6) w) (KeepsX l w.heap.size (Bs + 6) w) ?_ ?_ hI0 ?assign ?body ?done ?stop
  · intro pre A B row hh hg hr
    exact hh.grown (Nat.le_refl _) (by omega) (by omega) hg (fun r e => by have := (hr r e).1; omega)
  · intro c pre A B row hh hg hr
    exact hh.grown (by omega) hg (fun r e => by have := (hr r e).1; omega)
  case assign =>
    intro l1 pre x V K' hi' hK'
    have HK := hid hK'
    have hzv := hi'.size
    clear hK'
    gi_wp2
    exact HK.out _ _ ((KeepsOthers.alloc _ _).from _) (Kept.alloc _ _ _) (hi'.grown (Nat.le_refl _) (by omega) (by omega) (World.grownBy_alloc _ _ none) (by simp)) (by omega) (World.alloc_heap_new _ _)
  case body =>
    rintro l1 pre ⟨q, t, b⟩ B V hl1 hi' hB hobj hlen
    have c0 : V.cell? ⟨B, 0, none⟩ = some (.int .i64 t) := by simp [World.cell?, hobj]
    have s0 : V.cell? ⟨Bs, 0, none⟩ = some (.int .i64 lo) := by simp [World.cell?, hi'.sp]
    have s1 : V.cell? ⟨Bs, 1, none⟩ = some (.int .i64 hi) := by simp [World.cell?, hi'.sp]
    have n0 := hi'.ne.cell
    have hzv := hi'.size
    have hbt := HBAD.out t
    have e1 := hi'.r0.cell
    have e1' := hi'.r0.frozen
    have e2 := (hi'.r1.other (B' := w.heap.size + 1 + 1 + 1) (by omega) (.int .i64 q)).cell
    have e2' := (hi'.r1.other (B' := w.heap.size + 1 + 1 + 1) (by omega) (.int .i64 q)).frozen
    have HI := hid hi'
    have HN := hid hN6
    clear hobj hN6 hsz3
    have stopped : l.bad t = true → KeepsFrom w4.heap.size V ((V.setCell ⟨w.heap.size + 1 + 1 + 1, 0, none⟩ (.int .i64 q)).setCell ⟨w.heap.size + 1 + 1 + 1 + 1, 0, none⟩ (.int .i64 0)) ∧ KeepsX l w.heap.size (Bs + 6) w .ret (pre ++ [(q, t, b)]) ((V.setCell ⟨w.heap.size + 1 + 1 + 1, 0, none⟩ (.int .i64 q)).setCell ⟨w.heap.size + 1 + 1 + 1 + 1, 0, none⟩ (.int .i64 0)) := fun hb => by
      have hi' := HI.out
      refine ⟨?_, rfl, ⟨(q, t, b), pre, rfl, hi'.good, hb, (hi'.r0.set _).other (by omega) _⟩, (hi'.r1.other (by omega) _).set _, (hi'.below.setCell (by simp; omega) _).setCell (by simp; omega) _, ?_⟩
      · exact KeepsFrom.trans (.of_grownBy (grownBy_setCell' _ _ _) (by intro j hj; cases hj; have := HN.out; omega)) (.of_grownBy (grownBy_setCell' _ _ _) (by intro j hj; cases hj; have := HN.out; omega))
      · exact Nat.le_trans hzv (Nat.le_trans (grownBy_setCell' V (w.heap.size + 1 + 1 + 1) (.int .i64 q)).size (grownBy_setCell' _ (w.heap.size + 1 + 1 + 1 + 1) (.int .i64 0)).size)
    have HST := hid stopped
    clear stopped
    rcases HER.out with rfl | rfl
    · by_cases hin : lo ≤ t ∧ t ≤ hi
      · have hd : decide (lo ≤ t ∧ t ≤ hi) = true := decide_eq_true hin
        have hg : l.bad t = false := by rw [hbt]; simp [hin]
        have HG := hid hg
        clear hbt hg hin
        gi_wp2_with (refine ⟨trivial, ?_⟩; gi_at_call 53; refine (inWideRound l1 (within_any _ _ _ _)).mono ?_; rintro e w' ⟨rfl, rfl⟩)
        refine ⟨KeepsFrom.refl _ _, Kept.refl _ _, fun x hx => ?_, HI.out.r0, HI.out.r1, HI.out.sp, HI.out.ne, HI.out.below, HI.out.size⟩
        rcases List.mem_append.1 hx with hx | hx
        · exact HI.out.good x hx
        · rw [List.mem_singleton.1 hx]; exact HG.out
      · have hd : decide (lo ≤ t ∧ t ≤ hi) = false := decide_eq_false hin
        have hg : l.bad t = true := by rw [hbt, ← Bool.decide_and, hd]; simp
        have HG := hid hg
        clear hbt hg hin
        gi_wp2_with (refine ⟨trivial, ?_⟩; gi_at_call 53; refine (inWideRound l1 (within_any _ _ _ _)).mono ?_; rintro e w' ⟨rfl, rfl⟩)
        exact HST.out HG.out
    · have hg : l.bad t = true := by rw [hbt]; simp
      have HG := hid hg
      clear hbt hg
      gi_wp2
      refine ⟨trivial, ?_⟩
      gi_wp2
      exact HST.out HG.out
  case done =>
    rintro D ys V hD hys hi' hdef
    have e1 := hi'.r0.cell
    have e1' := hi'.r0.frozen
    have e2 := (hi'.r1.other (B' := w.heap.size + 1 + 1 + 1) (by omega) (.int .i64 (-1))).cell
    have e2' := (hi'.r1.other (B' := w.heap.size + 1 + 1 + 1) (by omega) (.int .i64 (-1))).frozen
    have HI := hid hi'
    have y1 := (hi'.r0.set (.int .i64 (-1))).other (B' := w.heap.size + 1 + 1 + 1 + 1) (by omega) (.int .i64 0)
    have y2 := (hi'.r1.other (B' := w.heap.size + 1 + 1 + 1) (by omega) (.int .i64 (-1))).set (.int .i64 0)
    have yb := (hi'.below.setCell (p := ⟨w.heap.size + 1 + 1 + 1, 0, none⟩) (by simp; omega) (.int .i64 (-1))).setCell (p := ⟨w.heap.size + 1 + 1 + 1 + 1, 0, none⟩) (by simp; omega) (.int .i64 0)
    have hd3 := ((KeepsOthers.setCell V ⟨w.heap.size + 1 + 1 + 1, 0, none⟩ (.int .i64 (-1))).trans (KeepsOthers.setCell _ ⟨w.heap.size + 1 + 1 + 1 + 1, 0, none⟩ (.int .i64 0))).same D _ hdef rfl
    have hf : (yieldsTo o (beginL slo h (shi - slo + 1).toNat) (M + 1)).find? (fun x => l.bad x.2.1) = none := by
      rw [List.find?_eq_none]
      intro x hx
      rw [← hys] at hx
      rw [hi'.good x hx]; simp
    obtain rfl : kv = -1 := by rw [← HKV.out, hf]
    have Y1 := hid y1
    have Y2 := hid y2
    have YB := hid yb
    have HD3 := hid hd3
    have HN := hid hN6
    clear hi' y1 y2 yb hd3 hf hys hdef hN6 hsz3
    gi_wp2
    obtain ⟨z1, z2, zz⟩ := keeps_end (w := w) (D := D) rfl (by have := HN.out; omega) Y1.out Y2.out YB.out
    refine ⟨by simp, .inl ⟨_, _, rfl, run_takeDeferred HD3.out, ?_⟩⟩
    refine ⟨val2 (-1) 0, ?_, zz⟩
    simp [results, Try.f38, go_sem, z1, z2]
  case stop =>
    rintro D c pre V hD hpre ⟨rfl, ⟨⟨q, t, b⟩, p, rfl, g1, g2, g3⟩, g4, g5, g6⟩ hdef
    have hf : (yieldsTo o (beginL slo h (shi - slo + 1).toNat) (M + 1)).find? (fun x => l.bad x.2.1) = some (q, t, b) := by
      obtain ⟨ys, rfl, ⟨r, hr⟩⟩ := hpre
      rw [← hr, List.append_assoc, List.find?_append]
      rw [List.find?_eq_none.2 (fun x hx => by rw [g1 x hx]; simp)]
      simp only at g2
      simp [g2]
    obtain rfl : kv = (q : Int) := by rw [← HKV.out, hf]
    have HN := hid hN6
    clear hf hpre hN6 hsz3
    gi_wp2
    obtain ⟨z1, z2, zz⟩ := keeps_end (w := w) (D := D) rfl (by have := HN.out; omega) g3 g4 g5
    refine ⟨by simp, .inl ⟨_, _, rfl, run_takeDeferred hdef, ?_⟩⟩
    refine ⟨val2 q 0, ?_, zz⟩
    simp [results, Try.f38, go_sem, z1, z2]

theorem Keeps_any (l : Ln) (o : Ov) (s : Int × Int) (h : Bool) (m : Int) (w : World) :
    Calls Try.prog 38 #[l.val, o.val, spanV s, .bool h, .int .i64 m] w (Ret w (val2 (if keepsErr l o s m = 0 then keepsOf l o s h m else 0) (keepsErr l o s m))) := by
  unfold keepsErr
  by_cases hl : l.Ok
  · rw [if_pos hl]
    by_cases he : ovErr o s m = 0
    · rw [if_pos he, he]
      have hS := fun W => Safe_any l W
      unfold Ln.safeV at hS
      rw [if_pos hl] at hS
      cases hf : l.ends.2.2 with
      | true =>
        rw [hf, if_pos rfl] at hS
        exact callsIn_wide.1 (Keeps_in l hl o s h m he l.ends.1 l.ends.2.1 0 (fun t => by unfold Ln.bad; rw [hf]; simp) (.inl rfl) hS w)
      | false =>
        rw [hf, if_neg (by simp)] at hS
        exact callsIn_wide.1 (Keeps_in l hl o s h m he 0 0 9 (fun t => by unfold Ln.bad; rw [hf]; simp) (.inr rfl) hS w)
    · rw [if_neg he]
      exact Keeps_oven l hl o s h m _ rfl he w
  · rw [if_neg hl, if_neg (by omega)]
    exact Keeps_no l hl o s h m w
theorem Oven_any (o : Ov) (s : Int × Int) (h : Bool) (m : Int) (w : World) :
    Calls Try.prog 36 #[o.val, spanV s, .bool h, .int .i64 m] w (Ret w (.tuple #[.agg #[.int .i64 (if ovErr o s m = 0 then (ovEnds o s h m).1 else 0), .int .i64 (if ovErr o s m = 0 then (ovEnds o s h m).2.1 else 0)], .int .i64 (ovErr o s m)])) := by
  by_cases he : ovErr o s m = 0
  · rw [if_pos he, if_pos he, he]; exact Oven_ok o s h m he w
  · rw [if_neg he, if_neg he]; exact Oven_err o s h m he w
end Go.Proofs.Ytggkhddficmnfaa
