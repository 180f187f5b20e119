/-
  OrderLater: what is printed does not depend on when.
-/
import Derived.Test.YtphbcljhfadmaaaLawC
namespace Go.Proofs.Ytphbcljhfadmaaa
open Go.RowKit
set_option linter.unusedVariables false
set_option linter.unusedSimpArgs false

theorem sh_ok {s : St} (h : SOk s) {k : Int} (hk : 0 ≤ k) (ht : s.time + 16 * k ≤ 1000000000) : SOk (s.sh (16 * k)) := by
  obtain ⟨n1, n2, n3, n4, n5⟩ := h.num
  have h2 := n2.1
  have hp := h.pl
  refine ⟨h.len, h.w0, h.w1, h.w2, ⟨n1, ?_, n3, ?_, n5⟩, ?_⟩
  · show Tm (s.time + 16 * k); unfold Tm; omega
  · show 0 ≤ s.done ∧ s.done ≤ s.time + 16 * k; omega
  · show (s.time + 16 * k) % 16 = s.at_ % 16; omega
theorem ask_sh {s : St} {most : Int} (h : askErr s most = 0) {k : Int} (hk : 0 ≤ k) (ht : s.time + 16 * k ≤ 1000000000) : askErr (s.sh (16 * k)) most = 0 := by
  obtain ⟨a, b⟩ := ask_ok h
  unfold askErr
  rw [chk_ok (sh_ok a hk ht), if_pos rfl, if_pos b]
set_option maxRecDepth 100000 in
set_option maxHeartbeats 8000000 in
theorem later_any (hA : AwakeTrue) (w : World) (q : Sl) (s : St) (hl : StLen s) (hx : StAt w q s) (a b : Int) (ha : 0 ≤ a ∧ a ≤ 65535) (hb : 0 ≤ b ∧ b ≤ 65535) : Calls Try.prog 16 #[stVal q s, arr2 a b] w (Ret w (.bool true)) := by
  have HA := hid hA
  have HX := hid hx
  have B0 := hid (blkT w (.cells #[.int .u16 a, .int .u16 b] 55) (stCells q s) 37)
  have A0 := hid (blkU w (.cells (stCells q s) 37) #[.int .u16 a, .int .u16 b] 55)
  have hR := fun W g => Run_any q s hl (a % 5001) W g
  have ra : a.tmod 5001 = a % 5001 := Int.tmod_eq_emod_of_nonneg ha.1
  have M0 := hid trivial
  by_cases he : askErr s (a % 5001) = 0
  · obtain ⟨e1, hs, h0, h5⟩ := run_of_ok he
    have hok := run_ok (a % 5001).toNat hs
    rw [he, e1] at hR
    have d1 : 0 ≤ s.time ∧ s.time ≤ 1000000000 := by obtain ⟨_, x, _⟩ := hs.num; exact x
    have HR := hid hR
    by_cases hov : 1000000000 < s.time + 16 * b
    · generalize hT : St.run (a % 5001).toNat s = t at *
      clear hR hs hok e1 he hA hx hT
      go_enter Try.func16, Try.ntmps16
      go_wp2_with (first
        | (have m := M0; go_at_call 31; refine (HR.out _ (HX.out.below (b_alloc (b_alloc (Below.refl w.heap.size w) _) _))).mono ?_; rintro e w1 ⟨q1, rfl, hs1, hb1⟩; have HB1 := hid (b_call hb1 (b_alloc (b_alloc (Below.refl w.heap.size w) _) _)); obtain ⟨⟨x0, x1, x2, x3⟩, x4, x5, x6, x7⟩ := stBlk ((B0.out.call hb1).alloc (.cells (stCells q1 t) 37)); have y1 := ((A0.out.call hb1).alloc (.cells (stCells q1 t) 37)).cell 1 _ rfl; clear hb1 hs1 m M0)
        | (go_at_call 23; refine (HA.out _).mono ?_; rintro e w7 ⟨rfl, hb7⟩; have HB7 := hid (show Below w.heap.size w w7 from b_call hb7 (by have hq := HB1.out; (repeat (first | assumption | exact Below.refl _ _ | refine b_alloc ?_ _ | refine Below.drew ?_ | refine b_drewN ?_ _ | refine Below.setCell ?_ (by first | omega | (simp; done) | (simp; omega)) _ | refine b_call (by assumption) ?_)))); clear hb7))
      go_ret
      exact ⟨rfl, HB7.out⟩
    · have hov' : s.time + 16 * b ≤ 1000000000 := by omega
      have he2 := ask_sh he hb.1 hov'
      obtain ⟨e2, hs2, _, _⟩ := run_of_ok he2
      have hR2 := fun W g => Run_any q (s.sh (16 * b)) hl (a % 5001) W g
      rw [he2, e2] at hR2
      have hsh := run_sh b hb.1 (a % 5001).toNat s
      generalize hT : St.run (a % 5001).toNat s = t at *
      generalize hU : St.run (a % 5001).toNat (s.sh (16 * b)) = u at *
      have HLT := hid (len_ok hok)
      clear hR hs e1 he hA hx hT hU e2 he2 hs2 hov'
      by_cases h4 : t.why = 4
      · have h4' : (t.why == 4) = true := by simpa using h4
        have HR2 := hid hR2
        clear hsh hR2 h4 hok
        go_enter Try.func16, Try.ntmps16
        go_wp2_with (first
          | (have m := M0; go_at_call 31; refine (HR.out _ (HX.out.below (b_alloc (b_alloc (Below.refl w.heap.size w) _) _))).mono ?_; rintro e w1 ⟨q1, rfl, hs1, hb1⟩; have HB1 := hid (b_call hb1 (b_alloc (b_alloc (Below.refl w.heap.size w) _) _)); have HS1 := hid hs1; have T1 := hid (Blk.new w1 (stCells q1 t) 37); have B1 := hid ((B0.out.call hb1).alloc (.cells (stCells q1 t) 37)); obtain ⟨⟨x0, x1, x2, x3⟩, x4, x5, x6, x7⟩ := stBlk B1.out; have z4 := fun o => (B1.out.alloc o).cell 4 _ rfl; have y1 := ((A0.out.call hb1).alloc (.cells (stCells q1 t) 37)).cell 1 _ rfl; clear hb1 hs1 m M0; have M1 := hid trivial)
          | (have m := M1; go_at_call 31; refine (HR2.out _ (show StAt _ q s from HX.out.below (by have hq := HB1.out; (repeat (first | assumption | exact Below.refl _ _ | refine b_alloc ?_ _ | refine Below.drew ?_ | refine b_drewN ?_ _ | refine Below.setCell ?_ (by first | omega | (simp; done) | (simp; omega)) _ | refine b_call (by assumption) ?_))))).mono ?_; rintro e w2 ⟨q2, rfl, hs2, hb2⟩; have HB2 := hid (show Below w.heap.size w w2 from b_call hb2 (by have hq := HB1.out; (repeat (first | assumption | exact Below.refl _ _ | refine b_alloc ?_ _ | refine Below.drew ?_ | refine b_drewN ?_ _ | refine Below.setCell ?_ (by first | omega | (simp; done) | (simp; omega)) _ | refine b_call (by assumption) ?_)))); have hw12 : Below w1.heap.size w1 w2 := b_call hb2 (by have hq := Below.refl w1.heap.size w1; (repeat (first | assumption | exact Below.refl _ _ | refine b_alloc ?_ _ | refine Below.drew ?_ | refine b_drewN ?_ _ | refine Below.setCell ?_ (by first | omega | (simp; done) | (simp; omega)) _ | refine b_call (by assumption) ?_))); have HS2 := hid hs2; have HS12 := hid (HS1.out.below hw12); have T2 := hid (T1.out.call (b_call hb2 (by have hq := Below.refl (w1.alloc (.cells (stCells q1 t) 37)).heap.size (w1.alloc (.cells (stCells q1 t) 37)); (repeat (first | assumption | exact Below.refl _ _ | refine b_alloc ?_ _ | refine Below.drew ?_ | refine b_drewN ?_ _ | refine Below.setCell ?_ (by first | omega | (simp; done) | (simp; omega)) _ | refine b_call (by assumption) ?_))))); clear x0 x1 x2 x3 x4 x5 x6 x7 z4 y1 hw12; have t0 := fun o => (T2.out.alloc o).cell 0 _ rfl; have t1 := fun o => (T2.out.alloc o).cell 1 _ rfl; have t2 := fun o => (T2.out.alloc o).cell 2 _ rfl; have t3 := fun o => (T2.out.alloc o).cell 3 _ rfl; have t4 := fun o => (T2.out.alloc o).cell 4 _ rfl; have t5 := fun o => (T2.out.alloc o).cell 5 _ rfl; have t6 := fun o => (T2.out.alloc o).cell 6 _ rfl; have t7 := fun o => (T2.out.alloc o).cell 7 _ rfl; clear hb2 hs2 m M1)
          | (go_at_call 23; refine (HA.out _).mono ?_; rintro e w7 ⟨rfl, hb7⟩; have HB7 := hid (show Below w.heap.size w w7 from b_call hb7 (by have hq := HB2.out; (repeat (first | assumption | exact Below.refl _ _ | refine b_alloc ?_ _ | refine Below.drew ?_ | refine b_drewN ?_ _ | refine Below.setCell ?_ (by first | omega | (simp; done) | (simp; omega)) _ | refine b_call (by assumption) ?_)))); clear hb7))
        go_ret
        exact ⟨rfl, HB7.out⟩
      · have h4' : (t.why == 4) = false := by simpa using h4
        by_cases h5' : u.why = 4
        · have h5'' : (u.why == 4) = true := by simpa using h5'
          have HR2 := hid hR2
          clear hsh hR2 h4 hok h5'
          go_enter Try.func16, Try.ntmps16
          go_wp2_with (first
            | (have m := M0; go_at_call 31; refine (HR.out _ (HX.out.below (b_alloc (b_alloc (Below.refl w.heap.size w) _) _))).mono ?_; rintro e w1 ⟨q1, rfl, hs1, hb1⟩; have HB1 := hid (b_call hb1 (b_alloc (b_alloc (Below.refl w.heap.size w) _) _)); have HS1 := hid hs1; have T1 := hid (Blk.new w1 (stCells q1 t) 37); have B1 := hid ((B0.out.call hb1).alloc (.cells (stCells q1 t) 37)); obtain ⟨⟨x0, x1, x2, x3⟩, x4, x5, x6, x7⟩ := stBlk B1.out; have z4 := fun o => (B1.out.alloc o).cell 4 _ rfl; have y1 := ((A0.out.call hb1).alloc (.cells (stCells q1 t) 37)).cell 1 _ rfl; clear hb1 hs1 m M0; have M1 := hid trivial)
            | (have m := M1; go_at_call 31; refine (HR2.out _ (show StAt _ q s from HX.out.below (by have hq := HB1.out; (repeat (first | assumption | exact Below.refl _ _ | refine b_alloc ?_ _ | refine Below.drew ?_ | refine b_drewN ?_ _ | refine Below.setCell ?_ (by first | omega | (simp; done) | (simp; omega)) _ | refine b_call (by assumption) ?_))))).mono ?_; rintro e w2 ⟨q2, rfl, hs2, hb2⟩; have HB2 := hid (show Below w.heap.size w w2 from b_call hb2 (by have hq := HB1.out; (repeat (first | assumption | exact Below.refl _ _ | refine b_alloc ?_ _ | refine Below.drew ?_ | refine b_drewN ?_ _ | refine Below.setCell ?_ (by first | omega | (simp; done) | (simp; omega)) _ | refine b_call (by assumption) ?_)))); have hw12 : Below w1.heap.size w1 w2 := b_call hb2 (by have hq := Below.refl w1.heap.size w1; (repeat (first | assumption | exact Below.refl _ _ | refine b_alloc ?_ _ | refine Below.drew ?_ | refine b_drewN ?_ _ | refine Below.setCell ?_ (by first | omega | (simp; done) | (simp; omega)) _ | refine b_call (by assumption) ?_))); have HS2 := hid hs2; have HS12 := hid (HS1.out.below hw12); have T2 := hid (T1.out.call (b_call hb2 (by have hq := Below.refl (w1.alloc (.cells (stCells q1 t) 37)).heap.size (w1.alloc (.cells (stCells q1 t) 37)); (repeat (first | assumption | exact Below.refl _ _ | refine b_alloc ?_ _ | refine Below.drew ?_ | refine b_drewN ?_ _ | refine Below.setCell ?_ (by first | omega | (simp; done) | (simp; omega)) _ | refine b_call (by assumption) ?_))))); clear x0 x1 x2 x3 x4 x5 x6 x7 z4 y1 hw12; have t0 := fun o => (T2.out.alloc o).cell 0 _ rfl; have t1 := fun o => (T2.out.alloc o).cell 1 _ rfl; have t2 := fun o => (T2.out.alloc o).cell 2 _ rfl; have t3 := fun o => (T2.out.alloc o).cell 3 _ rfl; have t4 := fun o => (T2.out.alloc o).cell 4 _ rfl; have t5 := fun o => (T2.out.alloc o).cell 5 _ rfl; have t6 := fun o => (T2.out.alloc o).cell 6 _ rfl; have t7 := fun o => (T2.out.alloc o).cell 7 _ rfl; clear hb2 hs2 m M1)
            | (go_at_call 23; refine (HA.out _).mono ?_; rintro e w7 ⟨rfl, hb7⟩; have HB7 := hid (show Below w.heap.size w w7 from b_call hb7 (by have hq := HB2.out; (repeat (first | assumption | exact Below.refl _ _ | refine b_alloc ?_ _ | refine Below.drew ?_ | refine b_drewN ?_ _ | refine Below.setCell ?_ (by first | omega | (simp; done) | (simp; omega)) _ | refine b_call (by assumption) ?_)))); clear hb7))
          go_ret
          exact ⟨rfl, HB7.out⟩
        · obtain rfl := hsh h4 h5'
          have dt : 0 ≤ t.time ∧ t.time ≤ 1000000000 := by obtain ⟨_, x, _⟩ := hok.num; exact x
          have HR2 := hid (show ∀ W, StAt W q (s.sh (16 * b)) → Calls Try.prog 31 #[stVal q (s.sh (16 * b)), .int .i64 (a % 5001)] W (RetS W ⟨t.store, t.tape, t.taken, t.printed, t.time + 16 * b, t.at_, t.done, t.why⟩ 0) from hR2)
          clear hsh hR2 h4 hok h5'
          go_enter Try.func16, Try.ntmps16
          go_wp2_with (first
            | (have m := M0; go_at_call 31; refine (HR.out _ (HX.out.below (b_alloc (b_alloc (Below.refl w.heap.size w) _) _))).mono ?_; rintro e w1 ⟨q1, rfl, hs1, hb1⟩; have HB1 := hid (b_call hb1 (b_alloc (b_alloc (Below.refl w.heap.size w) _) _)); have HS1 := hid hs1; have T1 := hid (Blk.new w1 (stCells q1 t) 37); have B1 := hid ((B0.out.call hb1).alloc (.cells (stCells q1 t) 37)); obtain ⟨⟨x0, x1, x2, x3⟩, x4, x5, x6, x7⟩ := stBlk B1.out; have z4 := fun o => (B1.out.alloc o).cell 4 _ rfl; have y1 := ((A0.out.call hb1).alloc (.cells (stCells q1 t) 37)).cell 1 _ rfl; clear hb1 hs1 m M0; have M1 := hid trivial)
            | (have m := M1; go_at_call 31; refine (HR2.out _ (show StAt _ q s from HX.out.below (by have hq := HB1.out; (repeat (first | assumption | exact Below.refl _ _ | refine b_alloc ?_ _ | refine Below.drew ?_ | refine b_drewN ?_ _ | refine Below.setCell ?_ (by first | omega | (simp; done) | (simp; omega)) _ | refine b_call (by assumption) ?_))))).mono ?_; rintro e w2 ⟨q2, rfl, hs2, hb2⟩; have HB2 := hid (show Below w.heap.size w w2 from b_call hb2 (by have hq := HB1.out; (repeat (first | assumption | exact Below.refl _ _ | refine b_alloc ?_ _ | refine Below.drew ?_ | refine b_drewN ?_ _ | refine Below.setCell ?_ (by first | omega | (simp; done) | (simp; omega)) _ | refine b_call (by assumption) ?_)))); have hw12 : Below w1.heap.size w1 w2 := b_call hb2 (by have hq := Below.refl w1.heap.size w1; (repeat (first | assumption | exact Below.refl _ _ | refine b_alloc ?_ _ | refine Below.drew ?_ | refine b_drewN ?_ _ | refine Below.setCell ?_ (by first | omega | (simp; done) | (simp; omega)) _ | refine b_call (by assumption) ?_))); have HS2 := hid hs2; have HS12 := hid (HS1.out.below hw12); have T2 := hid (T1.out.call (b_call hb2 (by have hq := Below.refl (w1.alloc (.cells (stCells q1 t) 37)).heap.size (w1.alloc (.cells (stCells q1 t) 37)); (repeat (first | assumption | exact Below.refl _ _ | refine b_alloc ?_ _ | refine Below.drew ?_ | refine b_drewN ?_ _ | refine Below.setCell ?_ (by first | omega | (simp; done) | (simp; omega)) _ | refine b_call (by assumption) ?_))))); clear x0 x1 x2 x3 x4 x5 x6 x7 z4 y1 hw12; have t0 := fun o => (T2.out.alloc o).cell 0 _ rfl; have t1 := fun o => (T2.out.alloc o).cell 1 _ rfl; have t2 := fun o => (T2.out.alloc o).cell 2 _ rfl; have t3 := fun o => (T2.out.alloc o).cell 3 _ rfl; have t4 := fun o => (T2.out.alloc o).cell 4 _ rfl; have t5 := fun o => (T2.out.alloc o).cell 5 _ rfl; have t6 := fun o => (T2.out.alloc o).cell 6 _ rfl; have t7 := fun o => (T2.out.alloc o).cell 7 _ rfl; clear hb2 hs2 m M1)
            | (go_at_call 30; refine (States_same q1 q2 t HLT.out _ (HS12.out.below (b_alloc (Below.refl _ _) _)) ((show StAt w2 q2 t from HS2.out).below (b_alloc (Below.refl _ _) _))).mono ?_; rintro e w3 ⟨rfl, hb3⟩; have HB3 := hid (b_call hb3 (b_alloc HB2.out _)); clear hb3)
            | (go_at_call 23; refine (HA.out _).mono ?_; rintro e w7 ⟨rfl, hb7⟩; have HB8 := hid (show Below w.heap.size w w7 from b_call hb7 HB3.out); clear hb7))
          go_ret
          exact ⟨rfl, HB8.out⟩
  · have hne : (askErr s (a % 5001) != 0) = true := by simpa using he
    generalize askErr s (a % 5001) = er at *
    generalize runOf s (a % 5001) = t at *
    have HR := hid hR
    clear hR he hA hx
    go_enter Try.func16, Try.ntmps16
    go_wp2_with (first
      | (go_at_call 31; refine (HR.out _ (HX.out.below (b_alloc (b_alloc (Below.refl w.heap.size w) _) _))).mono ?_; rintro e w1 ⟨q1, rfl, hs1, hb1⟩; have HB1 := hid (b_call hb1 (b_alloc (b_alloc (Below.refl w.heap.size w) _) _)); clear hb1 hs1)
      | (go_at_call 23; refine (HA.out _).mono ?_; rintro e w7 ⟨rfl, hb7⟩; have HB7 := hid (show Below w.heap.size w w7 from b_call hb7 (by have hq := HB1.out; (repeat (first | assumption | exact Below.refl _ _ | refine b_alloc ?_ _ | refine Below.drew ?_ | refine b_drewN ?_ _ | refine Below.setCell ?_ (by first | omega | (simp; done) | (simp; omega)) _ | refine b_call (by assumption) ?_)))); clear hb7))
    go_ret
    exact ⟨rfl, HB7.out⟩
end Go.Proofs.Ytphbcljhfadmaaa
