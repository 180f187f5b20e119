/-
  OrderStore where one order is done.
-/
import Derived.Test.YtphbcljhfadmaaaLawF0
namespace Go.Proofs.Ytphbcljhfadmaaa
open Go.RowKit
set_option linter.unusedVariables false
set_option linter.unusedSimpArgs false

set_option maxRecDepth 100000 in
set_option maxHeartbeats 16000000 in
theorem store_step (hA : AwakeTrue) (w : World) (q : Sl) (s : St) (hl : StLen s) (hx : StAt w q s) (S2 P2 ys : List Int) (tk2 tm2 at2 dn2 wy2 : Int) (x : Stp) (hln : s.store.length = 128) (hl2 : S2.length = s.store.length) (hp : P2 = s.printed ++ ys)
    (hch : ∀ k : Nat, k < 128 → s.store[k]?.getD 0 = S2[k]?.getD 0 ∨ (x.od.to = (k : Int) ∧ x.od.op ≠ 5 ∧ x.od.op ≠ 7)) (hop : (x.od.op = 6 ∧ tk2 = s.taken + 1 ∧ ys = []) ∨ (x.od.op = 7 ∧ tk2 = s.taken ∧ ys.length = 1) ∨ (x.od.op ≠ 6 ∧ x.od.op ≠ 7 ∧ tk2 = s.taken ∧ ys = []))
    (hR : ∀ W, StAt W q s → Calls Try.prog 31 #[stVal q s, .int .i64 1] W (RetSc W ⟨S2, s.tape, tk2, P2, tm2, at2, dn2, wy2⟩ 0))
    (hT : ∀ W, StAt W q s → Calls Try.prog 33 #[stVal q s, .int .i64 1] W (RetT W [x] 0)) : Calls Try.prog 13 #[stVal q s] w (Ret w (.bool true)) := by
    have HA := hid hA
    have HX := hid hx
    have HL := hid hl
    have HLN := hid hln
    have HL2 := hid hl2
    have HP := hid hp
    have HCH := hid hch
    have HOP := hid hop
    have HR := hid hR
    have HT := hid hT
    have B0 := hid (Blk.new w (stCells q s) 37)
    have M0 := hid trivial
    obtain ⟨xat, ⟨op, fr, tt, nx⟩, xtm, xtl⟩ := x
    clear hA hx hl hln hl2 hp hch hop hR hT
    go_enter Try.func13, Try.ntmps13
    go_wp2_with (first
      | (have m := M0; go_at_call 31; refine (HR.out _ (HX.out.below (b_alloc (Below.refl w.heap.size w) _))).mono ?_; rintro e w1 ⟨q1, rfl, hs1, hcc, hb1⟩; have HB1 := hid (b_call hb1 (b_alloc (Below.refl w.heap.size w) _)); have HC1 := hid hcc; have HS1 := hid hs1; have T1 := hid (Blk.new w1 (stCells q1 ⟨S2, s.tape, tk2, P2, tm2, at2, dn2, wy2⟩) 37); have B1 := hid ((B0.out.call hb1).alloc (.cells (stCells q1 ⟨S2, s.tape, tk2, P2, tm2, at2, dn2, wy2⟩) 37)); obtain ⟨⟨x0, x1, x2, x3⟩, x4, x5, x6, x7⟩ := stBlk B1.out; clear hb1 hs1 hcc m M0; have M1 := hid trivial)
      | (have m := M1; go_at_call 33; refine (HT.out _ (HX.out.below (by have hq := HB1.out; (repeat (first | assumption | exact Below.refl _ _ | refine b_alloc ?_ _ | refine Below.drew ?_ | refine b_drewN ?_ _ | refine Below.setCell ?_ (by first | omega | (simp; done) | (simp; omega)) _ | refine b_call (by assumption) ?_))))).mono ?_; rintro e w2 ⟨v2, rfl, ho2, hb2⟩; obtain ⟨lg, lc, rfl, hlc⟩ := rowOne ho2; have LC2 := hid hlc; clear hlc; have HB2 := hid (show Below w.heap.size w w2 from b_call hb2 (by have hq := HB1.out; (repeat (first | assumption | exact Below.refl _ _ | refine b_alloc ?_ _ | refine Below.drew ?_ | refine b_drewN ?_ _ | refine Below.setCell ?_ (by first | omega | (simp; done) | (simp; omega)) _ | refine b_call (by assumption) ?_)))); have HS2 := hid (HS1.out.below (show Below w1.heap.size w1 w2 from b_call hb2 (by have hq := Below.refl w1.heap.size w1; (repeat (first | assumption | exact Below.refl _ _ | refine b_alloc ?_ _ | refine Below.drew ?_ | refine b_drewN ?_ _ | refine Below.setCell ?_ (by first | omega | (simp; done) | (simp; omega)) _ | refine b_call (by assumption) ?_))))); clear x0 x1 x2 x3 x4 x5 x6 x7; have B2 := hid (B1.out.call hb2); have T2 := hid (T1.out.call hb2); obtain ⟨⟨x0, x1, x2, x3⟩, x4, x5, x6, x7⟩ := stBlk B2.out; obtain ⟨⟨t0, t1, t2, t3⟩, t4, t5, t6, t7⟩ := stBlk T2.out; clear hb2 ho2 m M1; have M2 := hid trivial))
    have hc1 : (s.printed.length : Int) ≤ (q1.cc : Int) := by have := HC1.out; simp only [HP.out, List.length_append] at this; omega
    have hc2 : s.printed.length ≤ q1.cc := by omega
    have hsl : (S2.length != s.store.length) = false := by rw [HL2.out]; simp
    have hsl2 : ((S2.length : Int) != (s.store.length : Int)) = false := by rw [HL2.out]; simp
    have hpn : s.printed.length ≤ P2.length := by rw [HP.out, List.length_append]; omega
    have hpl : ¬ ((P2.length : Int) < (s.printed.length : Int)) := by omega
    have hpl2 : ¬ (P2.length < s.printed.length) := by omega
    have hpl3 : decide ((P2.length : Int) < (s.printed.length : Int)) = false := decide_eq_false hpl
    have hpl4 : decide (P2.length < s.printed.length) = false := decide_eq_false hpl2
    obtain ⟨i0, i1, i2⟩ := HX.out.below HB2.out
    have j0 : IntsAt w2 q1.a S2 := HS2.out.1
    have j1 : IntsAt w2 q1.b s.tape := HS2.out.2.1
    have j2 : IntsAt w2 q1.c s.printed := ints_take (ys := ys) (by have := HS2.out.2.2; rw [← HP.out]; exact this)
    have hd2 := (Below.refl w2.heap.size w2).drew
    go_region_held3 (fun w' => w'.cell? ⟨w.heap.size, 0, none⟩ = some (.slice q.a s.store.length q.ca) ∧ w'.cell? ⟨w.heap.size, 1, none⟩ = some (.slice q.b s.tape.length q.cb) ∧ w'.cell? ⟨w.heap.size, 3, none⟩ = some (.slice q.c s.printed.length q.cc) ∧ w'.cell? ⟨w1.heap.size, 0, none⟩ = some (.slice q1.a S2.length q1.ca) ∧ w'.cell? ⟨w1.heap.size, 1, none⟩ = some (.slice q1.b s.tape.length q1.cb) ∧ w'.cell? ⟨w1.heap.size, 3, none⟩ = some (.slice q1.c P2.length q1.cc) ∧ IntsAt w' q.b s.tape ∧ IntsAt w' q.c s.printed ∧ IntsAt w' q1.b s.tape ∧ IntsAt w' q1.c s.printed)
      (((try go_split_ands); refine ⟨?_, ?_, ?_, ?_, ?_, ?_, ?_, ?_, ?_, ?_⟩ <;> first | exact cell_later (by assumption) (by assumption) | exact IntsAt.below (by assumption) (by assumption)))
      (first
        | (have m := M2; go_at_call 38; refine (Ints_same q1.b q.b q1.cb q.cb s.tape HL.out.2.1 _ (by assumption) (by assumption)).mono ?_; rintro e w4 ⟨rfl, hb4⟩; have hw4 : Below w2.heap.size w2 w4 := b_call hb4 (Below.refl w2.heap.size w2).drew; have k1 := j2.below hw4; have k2 := i2.below hw4; clear m M2 hw4; have M3 := hid trivial)
        | (have m := M3; go_at_call 38; refine (Ints_same q1.c q.c q1.cc q.cc s.printed HL.out.2.2 _ k1 k2).mono ?_; rintro e w5 ⟨rfl, hb5⟩; clear m M3; have M4 := hid trivial))
    have HB5 := hid (show Below w.heap.size w w5 from b_call hb5 (show Below w.heap.size w w4 from b_call hb4 (by have hq := HB2.out; (repeat (first | assumption | exact Below.refl _ _ | refine b_alloc ?_ _ | refine Below.drew ?_ | refine b_drewN ?_ _ | refine Below.setCell ?_ (by first | omega | (simp; done) | (simp; omega)) _ | refine b_call (by assumption) ?_)))))
    have hb25 : Below w2.heap.size w2 w5 := b_call hb5 (b_call hb4 (Below.refl w2.heap.size w2).drew)
    have B5 := hid (B2.out.call hb25)
    have T5 := hid (T2.out.call hb25)
    have I5 := hid (i0.below hb25)
    have J5 := hid (j0.below hb25)
    have HL1 := hid (show (∀ W, Below w5.heap.size w5 W → W.cell? ⟨lg, 3, none⟩ = some (.int .i64 tt)) ∧ (∀ W, Below w5.heap.size w5 W → W.cell? ⟨lg, 1, none⟩ = some (.int .i64 op)) from ⟨fun W hW => cell_later hW (cell_later hb25 (LC2.out 3 _ rfl)), fun W hW => cell_later hW (cell_later hb25 (LC2.out 1 _ rfl))⟩)
    clear hb4 hb5 hb25 hd2 i0 i1 i2 j0 j1 j2 k1 k2 hc1 hc2 hsl hsl2 hpl hpl2 hpl3 hpl4
    obtain ⟨⟨x0, x1, x2, x3⟩, x4, x5, x6, x7⟩ := stBlk B5.out
    obtain ⟨⟨t0, t1, t2, t3⟩, t4, t5, t6, t7⟩ := stBlk T5.out
    obtain ⟨gb, go, eqa, hca⟩ := ints_addr I5.out (by rw [HLN.out]; omega)
    obtain ⟨gt, gu, eqb, hcb⟩ := ints_addr J5.out (by rw [HL2.out, HLN.out]; omega)
    have HCA := hid hca
    have HCB := hid hcb
    clear hca hcb
    go_wp2
    go_loopw [6] (fun iv wr => ∃ k : Nat, k ≤ 128 ∧ iv = .int .i64 (k : Int) ∧ Below w5.heap.size w5 wr) (fun iv _ => 128 - (intOf iv).toNat)
    case atStart => exact ⟨0, by omega, rfl, Below.refl _ _⟩
    case round =>
      obtain ⟨k, hk, rfl, hbr⟩ := hrel
      have HBR := hid hbr
      have BR := hid (B5.out.call hbr)
      have TR := hid (T5.out.call hbr)
      obtain ⟨⟨x0, x1, x2, x3⟩, x4, x5, x6, x7⟩ := stBlk BR.out
      obtain ⟨⟨t0, t1, t2, t3⟩, t4, t5, t6, t7⟩ := stBlk TR.out
      rw [eqa, HLN.out] at x0
      rw [eqb, HL2.out, HLN.out] at t0
      have l1 := (HL1.out.2 _ hbr)
      have l3 := (HL1.out.1 _ hbr)
      by_cases hlt : k < 128
      · have va := cell_later hbr (HCA.out k (by rw [HLN.out]; exact hlt))
        have vb := cell_later hbr (HCB.out k (by rw [HL2.out, HLN.out]; exact hlt))
        have hch := HCH.out k hlt
        have k0 : (0 : Int) ≤ (k : Int) := by omega
        have kk : (k : Int) < 128 := by omega
        clear hbr HCH HOP
        generalize s.store[k]?.getD 0 = x at *
        generalize S2[k]?.getD 0 = y at *
        by_cases hxy : x = y
        · subst hxy
          clear hch
          go_wp2
          go_region_held3 (fun w' => w'.cell? ⟨w.heap.size, 0, none⟩ = some (.slice (some ⟨gb, go, none⟩) 128 q.ca) ∧ w'.cell? ⟨w1.heap.size, 0, none⟩ = some (.slice (some ⟨gt, gu, none⟩) 128 q1.ca) ∧ w'.cell? ⟨gb, go + k, none⟩ = some (.int .i64 x) ∧ w'.cell? ⟨gt, gu + k, none⟩ = some (.int .i64 x))
            (go_keep) (fail)
          go_wp2
          go_roundw
          case rel => exact ⟨k + 1, by omega, by go_num, by have hq := HBR.out; (repeat (first | assumption | exact Below.refl _ _ | refine b_alloc ?_ _ | refine Below.drew ?_ | refine b_drewN ?_ _ | refine Below.setCell ?_ (by first | omega | (simp; done) | (simp; omega)) _ | refine b_call (by assumption) ?_))⟩
          case measure => simp [intOf]; omega
        · have hne : (x == y) = false := by simpa using hxy
          obtain ⟨h1, h2, h3⟩ := hch.resolve_left hxy
          have h4 : (op == 5) = false := by simpa using h2
          have h5 : (op == 7) = false := by simpa using h3
          clear hch
          subst h1
          go_wp2
          go_region_held3 (fun w' => w'.cell? ⟨w.heap.size, 0, none⟩ = some (.slice (some ⟨gb, go, none⟩) 128 q.ca) ∧ w'.cell? ⟨w1.heap.size, 0, none⟩ = some (.slice (some ⟨gt, gu, none⟩) 128 q1.ca) ∧ w'.cell? ⟨gb, go + k, none⟩ = some (.int .i64 x) ∧ w'.cell? ⟨gt, gu + k, none⟩ = some (.int .i64 y))
            (go_keep) (fail)
          go_wp2
          go_roundw
          case rel => exact ⟨k + 1, by omega, by go_num, by have hq := HBR.out; (repeat (first | assumption | exact Below.refl _ _ | refine b_alloc ?_ _ | refine Below.drew ?_ | refine b_drewN ?_ _ | refine Below.setCell ?_ (by first | omega | (simp; done) | (simp; omega)) _ | refine b_call (by assumption) ?_))⟩
          case measure => simp [intOf]; omega
      · obtain rfl : k = 128 := by omega
        clear hbr HCH
        have hpl : P2.length = s.printed.length + ys.length := by rw [HP.out, List.length_append]
        rcases HOP.out with ⟨h1, rfl, h3⟩ | ⟨h1, rfl, h3⟩ | ⟨h0, h1, rfl, h3⟩
        · subst h1
          rw [h3, List.length_nil, Nat.add_zero] at hpl
          rw [hpl] at t3
          go_wp2_with (go_at_call 23; refine (HA.out _).mono ?_; rintro e w7 ⟨rfl, hb7⟩; have HB7 := hid (b_call hb7 HBR.out); clear hb7)
          go_ret
          exact ⟨rfl, HB5.out.trans (HB7.out.mono HB5.out.size)⟩
        · subst h1
          rw [h3] at hpl
          rw [hpl] at t3
          have hb0 : (s.printed.length : Int) ≤ 17592186044416 := by have := HL.out.2.2; omega
          go_wp2_with (go_at_call 23; refine (HA.out _).mono ?_; rintro e w7 ⟨rfl, hb7⟩; have HB7 := hid (b_call hb7 HBR.out); clear hb7)
          go_ret
          exact ⟨rfl, HB5.out.trans (HB7.out.mono HB5.out.size)⟩
        · have g0 : (op == 6) = false := by simpa using h0
          have g1 : (op == 7) = false := by simpa using h1
          rw [h3, List.length_nil, Nat.add_zero] at hpl
          rw [hpl] at t3
          go_wp2_with (go_at_call 23; refine (HA.out _).mono ?_; rintro e w7 ⟨rfl, hb7⟩; have HB7 := hid (b_call hb7 HBR.out); clear hb7)
          go_ret
          exact ⟨rfl, HB5.out.trans (HB7.out.mono HB5.out.size)⟩
end Go.Proofs.Ytphbcljhfadmaaa
