/-
  OrderEnded: a run that has ended stays.
-/
import Derived.Test.YtbfhgcnfhjhgcaaRunErr
import Derived.Test.YtbfhgcnfhjhgcaaRunMath
import Derived.Test.YtbfhgcnfhjhgcaaRefStates
import Derived.Test.YtbfhgcnfhjhgcaaLawA
namespace Go.Proofs.Ytbfhgcnfhjhgcaa
open Go.RowKit
set_option linter.unusedVariables false
set_option linter.unusedSimpArgs false

abbrev arr2 (a b : Int) : Value := .agg #[.int .u16 a, .int .u16 b]
theorem len_ok {s : St} (h : SOk s) : StLen s := by obtain ⟨a, b, c⟩ := h.len; exact ⟨by unfold Len; omega, by unfold Len; omega, by unfold Len; omega⟩
theorem blkT (W : World) (o : Obj) (c : Array Value) (t : TypeId) : Blk ((W.alloc (.cells c t)).alloc o) W.heap.size t c := (Blk.new W c t).alloc o
theorem blkU (W : World) (o : Obj) (c : Array Value) (t : TypeId) : Blk ((W.alloc o).alloc (.cells c t)) (W.heap.size + 1) t c := by
  have := Blk.new (W.alloc o) c t
  rwa [World.size_alloc] at this
theorem run_of_ok {s : St} {most : Int} (h : askErr s most = 0) : runOf s most = St.run most.toNat s ∧ SOk s ∧ 0 ≤ most ∧ most ≤ 5000 := by
  obtain ⟨a, b⟩ := ask_ok h
  unfold runOf
  rw [if_pos h]
  exact ⟨rfl, a, b⟩
theorem ask_run {s : St} {most m : Int} (h : askErr s most = 0) (hm : 0 ≤ m ∧ m ≤ 5000) : askErr (runOf s most) m = 0 := by
  obtain ⟨e, hs, _⟩ := run_of_ok h
  rw [e]
  unfold askErr
  rw [chk_ok (run_ok _ hs), if_pos rfl, if_pos hm]
set_option maxRecDepth 100000 in
set_option maxHeartbeats 4000000 in
theorem ended_any (hA : AwakeTrue) (w : World) (q : Sl) (s : St) (hl : StLen s) (hx : StAt w q s) (a b : Int) (ha : 0 ≤ a ∧ a ≤ 65535) (hb : 0 ≤ b ∧ b ≤ 65535) : Calls Try.prog 11 #[stVal q s, arr2 a b] w (Ret w (.bool true)) := by
  have HA := hid hA
  have HX := hid hx
  have B0 := hid (blkT w (.cells #[.int .u16 a, .int .u16 b] 55) (stCells q s) 37)
  have A0 := hid (blkU w (.cells (stCells q s) 37) #[.int .u16 a, .int .u16 b] 55)
  have hR := fun W g => Run_any q s hl (a % 5001) W g
  have ra : a.tmod 5001 = a % 5001 := Int.tmod_eq_emod_of_nonneg ha.1
  have rb : b.tmod 5001 = b % 5001 := Int.tmod_eq_emod_of_nonneg hb.1
  have M0 := hid trivial
  by_cases he : askErr s (a % 5001) = 0
  · obtain ⟨e1, hs, h0, h5⟩ := run_of_ok he
    obtain ⟨g1, g2, g3, g4⟩ := run_grows (a % 5001).toNat hs
    have hok := run_ok (a % 5001).toNat hs
    have hn : ((a % 5001).toNat : Int) = a % 5001 := by omega
    rw [hn] at g2 g4
    have he2 := ask_run he (m := b % 5001) (by omega)
    have hst : (St.run (a % 5001).toNat s).why ≠ 0 → runOf (St.run (a % 5001).toNat s) (b % 5001) = St.run (a % 5001).toNat s := fun hw => by
      unfold runOf
      rw [e1] at he2
      rw [if_pos he2]
      exact run_stay hw _
    rw [e1] at hR he2
    rw [he] at hR
    generalize hT : St.run (a % 5001).toNat s = t at *
    have hR2 := fun q' W g => Run_any q' t (len_ok hok) (b % 5001) W g
    rw [he2] at hR2
    have hnt := hok.num
    have hns := hs.num
    have d1 : 0 ≤ t.done ∧ t.done ≤ 1000000000 := by obtain ⟨_, x, _, y, _⟩ := hnt; unfold Tm at x; omega
    have d2 : 0 ≤ s.done ∧ s.done ≤ 1000000000 := by obtain ⟨_, x, _, y, _⟩ := hns; unfold Tm at x; omega
    have n1 : ¬ t.done < s.done := by omega
    have n2 : ¬ a % 5001 < t.done - s.done := by omega
    have n3 : ¬ t.time < s.time := by omega
    have HR := hid hR
    have HLT := hid (len_ok hok)
    by_cases hw : t.why = 0
    · have hd := g4 hw
      have hde : (t.done - s.done == a % 5001) = true := by simp; omega
      clear hT g1 g2 g3 g4 hR hR2 e1 he he2 hst hs hok hnt hns hA hx hd
      have hwt : (t.why == 0) = true := by simpa using hw
      clear hw
      go_enter Try.func11, Try.ntmps11
      go_wp2_with (first
        | (have m := M0; go_at_call 31; refine (HR.out _ (HX.out.below (b_alloc (b_alloc (Below.refl w.heap.size w) _) _))).mono ?_; rintro e w1 ⟨q1, rfl, hs1, hb1⟩; have HB1 := hid (b_call hb1 (b_alloc (b_alloc (Below.refl w.heap.size w) _) _)); have HS1 := hid hs1; have B1 := hid (B0.out.call hb1); have A1 := hid (A0.out.call hb1); have T1 := hid (Blk.new w1 (stCells q1 t) 37); obtain ⟨⟨x0, x1, x2, x3⟩, x4, x5, x6, x7⟩ := stBlk (B1.out.alloc (.cells (stCells q1 t) 37)); clear hb1 hs1 m M0; have M1 := hid trivial)
        | (go_at_call 23; refine (HA.out _).mono ?_; rintro e w7 ⟨rfl, hb7⟩; have HB7 := hid (show Below w.heap.size w w7 from b_call hb7 (b_alloc HB1.out _)); clear hb7))
      go_ret
      exact ⟨rfl, HB7.out⟩
    · have hre := hst hw
      rw [hre] at hR2
      have HR2 := hid hR2
      have hwf : (t.why == 0) = false := by simpa using hw
      clear hT g1 g2 g3 g4 hR hR2 e1 he he2 hst hs hok hnt hns hA hx hw hre
      go_enter Try.func11, Try.ntmps11
      go_wp2_with (first
        | (have m := M0; go_at_call 31; refine (HR.out _ (HX.out.below (b_alloc (b_alloc (Below.refl w.heap.size w) _) _))).mono ?_; rintro e w1 ⟨q1, rfl, hs1, hb1⟩; have HB1 := hid (b_call hb1 (b_alloc (b_alloc (Below.refl w.heap.size w) _) _)); have HS1 := hid hs1; have B1 := hid (B0.out.call hb1); have A1 := hid (A0.out.call hb1); have T1 := hid (Blk.new w1 (stCells q1 t) 37); obtain ⟨⟨x0, x1, x2, x3⟩, x4, x5, x6, x7⟩ := stBlk (B1.out.alloc (.cells (stCells q1 t) 37)); obtain ⟨y0, y1⟩ : (w1.alloc (.cells (stCells q1 t) 37)).cell? ⟨w.heap.size + 1, 0, none⟩ = some (.int .u16 a) ∧ (w1.alloc (.cells (stCells q1 t) 37)).cell? ⟨w.heap.size + 1, 1, none⟩ = some (.int .u16 b) := ⟨(A1.out.alloc _).cell 0 _ rfl, (A1.out.alloc _).cell 1 _ rfl⟩; clear hb1 hs1 m M0; have M1 := hid trivial)
        | (have m := M1; go_at_call 31; refine (HR2.out q1 _ (HS1.out.below (b_alloc (Below.refl _ _) _))).mono ?_; rintro e w2 ⟨q2, rfl, hs2, hb2⟩; have HB2 := hid (b_call hb2 (b_alloc HB1.out _)); have HS2 := hid hs2; have HS12 := hid (HS1.out.below (b_call hb2 (b_alloc (Below.refl w1.heap.size w1) _))); clear x0 x1 x2 x3 x4 x5 x6 x7 y0 y1; obtain ⟨⟨x0, x1, x2, x3⟩, x4, x5, x6, x7⟩ := stBlk ((T1.out.call hb2).alloc (.cells (stCells q2 t) 37)); clear hb2 hs2 m M1)
        | (go_at_call 30; refine (States_same q1 q2 t HLT.out _ (HS12.out.below (b_alloc (Below.refl _ _) _)) (HS2.out.below (b_alloc (Below.refl _ _) _))).mono ?_; rintro e w3 ⟨rfl, hb3⟩; have HB3 := hid (b_call hb3 (b_alloc HB2.out _)); clear hb3)
        | (go_at_call 23; refine (HA.out _).mono ?_; rintro e w7 ⟨rfl, hb7⟩; have HB7 := hid (show Below w.heap.size w w7 from b_call hb7 HB3.out); clear hb7))
      go_ret
      exact ⟨rfl, HB7.out⟩
  · have hr0 : runOf s (a % 5001) = st0 := by unfold runOf; rw [if_neg he]
    rw [hr0] at hR
    have hne : (askErr s (a % 5001) != 0) = true := by simpa using he
    generalize askErr s (a % 5001) = er at *
    have HR := hid hR
    have e1 : st0.store.length = 0 := rfl
    have e2 : st0.done = 0 := rfl
    clear hR hr0 he hA hx
    go_enter Try.func11, Try.ntmps11
    go_wp2_with (first
      | (have m := M0; go_at_call 31; refine (HR.out _ (HX.out.below (b_alloc (b_alloc (Below.refl w.heap.size w) _) _))).mono ?_; rintro e w1 ⟨q1, rfl, hs1, hb1⟩; have HB1 := hid (b_call hb1 (b_alloc (b_alloc (Below.refl w.heap.size w) _) _)); have HS1 := hid hs1; have B1 := hid (B0.out.call hb1); have A1 := hid (A0.out.call hb1); have T1 := hid (Blk.new w1 (stCells q1 st0) 37); obtain ⟨⟨x0, x1, x2, x3⟩, x4, x5, x6, x7⟩ := stBlk (B1.out.alloc (.cells (stCells q1 st0) 37)); clear hb1 hs1 m M0; have M1 := hid trivial)
      | (go_at_call 23; refine (HA.out _).mono ?_; rintro e w7 ⟨rfl, hb7⟩; have HB7 := hid (show Below w.heap.size w w7 from b_call hb7 (b_alloc HB1.out _)); clear hb7))
    go_ret
    exact ⟨rfl, HB7.out⟩
end Go.Proofs.Ytbfhgcnfhjhgcaa
