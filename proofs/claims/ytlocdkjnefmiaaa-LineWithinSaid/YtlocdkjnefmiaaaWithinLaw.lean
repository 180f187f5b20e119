/-
  The law LineWithin, walked: given that Awake answers true.
-/
import Derived.Deep.RegionWith
import Derived.Deep.RegionHeld3
import Derived.BigQuiet
import Derived.Test.YtlocdkjnefmiaaaGBack
import Derived.Test.YtlocdkjnefmiaaaRoundsLaw
import Derived.Test.YtlocdkjnefmiaaaWithinMath
namespace Go.Proofs.Ytlocdkjnefmiaaa
open Go.RowKit
set_option linter.unusedVariables false
set_option linter.unusedSimpArgs false

set_option maxRecDepth 100000 in
set_option maxHeartbeats 2000000 in
theorem within_err (hA : ∀ W, Calls Try.prog 22 #[] W (Ret W (.bool true))) (l : Ln) (a b : Option Addr) (ca cb nx : Nat) (ss : List (Int × Int)) (er : Int) (hne : er ≠ 0)
    (hC : ∀ W, SpansAt W a ss → Calls Try.prog 32 #[l.val, .slice a ss.length ca] W (Ret W (.tuple #[.agg #[.slice none 0 0, .bool false], .int .i64 er]))) (w : World) (hx : SpansAt w a ss) :
    Calls Try.prog 14 #[l.val, .slice a ss.length ca, .slice b nx cb] w fun e w' => e = .returned (.bool true) ∧ Below w.heap.size w w' := by
  have HA := hid hA
  have HC := hid hC
  have HX := hid hx
  have hL0 := hid (lnAt_new' l w)
  clear hA hC hx
  go_enter Try.func14, Try.ntmps14
  go_wp2_with (first
    | (go_at_call 32; refine (HC.out _ (HX.out.below (by (repeat (first | assumption | exact Below.refl _ _ | refine b_alloc ?_ _ | refine Below.drew ?_ | refine b_drewN ?_ _ | refine Below.setCell ?_ (by first | omega | (simp; done) | (simp; omega)) _ | refine b_call (by assumption) ?_))))).mono ?_; rintro e w1 ⟨rfl, hb1⟩; have HB1 := hid (show Below w.heap.size w w1 by (repeat (first | assumption | exact Below.refl _ _ | refine b_alloc ?_ _ | refine Below.drew ?_ | refine b_drewN ?_ _ | refine Below.setCell ?_ (by first | omega | (simp; done) | (simp; omega)) _ | refine b_call (by assumption) ?_))); clear hb1)
    | (go_at_call 22; refine (HA.out _).mono ?_; rintro e w3 ⟨rfl, hb3⟩; have HB3 := hid (show Below w.heap.size w w3 from b_call hb3 (by have hq := HB1.out; (repeat (first | assumption | exact Below.refl _ _ | refine b_alloc ?_ _ | refine Below.drew ?_ | refine b_drewN ?_ _ | refine Below.setCell ?_ (by first | omega | (simp; done) | (simp; omega)) _ | refine b_call (by assumption) ?_)))); clear hb3))
  go_ret
  exact ⟨rfl, HB3.out⟩

set_option maxRecDepth 100000 in
set_option maxHeartbeats 8000000 in
theorem within_core (hA : ∀ W, Calls Try.prog 22 #[] W (Ret W (.bool true))) (m n : Nat) (lp ld ls ln : Int) (h : (Ln.mk m n lp ld ls ln).Ok) (a b : Option Addr) (ca cb : Nat) (ss : List (Int × Int)) (hls : ss.length ≤ 60)
    (hse : ∀ j, j < ss.length → -500 ≤ (ss[j]?.getD (0, 0)).1 ∧ (ss[j]?.getD (0, 0)).2 ≤ 1000 ∧ (ss[j]?.getD (0, 0)).1 ≤ (ss[j]?.getD (0, 0)).2) (x : List Int) (hxl : x.length ≤ 140737488351232) (hxb : bytesOk x)
    (xs : List Int) (at1 : Int) (lost : Bool) (ps : List Bool) (nb p : Nat) (hnb : nb ≤ 2560) (hps : ps.length = nb) (hat : 0 ≤ at1 → lost = true) (hp : at1 < 0 → ps[p]? = some true)
    (hC : ∀ W, SpansAt W a ss → Calls Try.prog 32 #[Ln.val ⟨m, n, lp, ld, ls, ln⟩, .slice a ss.length ca] W fun e w' => ∃ (ns : List Nat) (av : Option Addr) (cv : Nat), e = .returned (.tuple #[.agg #[.slice av ns.length cv, .bool lost], .int .i64 0]) ∧ IntsAt w' av (ns.map fun k : Nat => (k : Int)) ∧
      ((∀ i, i < ns.length → ns[i]?.getD 0 < nb) ∧ (∀ i, i + 1 < ns.length → ns[i]?.getD 0 < ns[i + 1]?.getD 0) ∧ ns.length ≤ 2560 ∧ (at1 < 0 → ∃ i, i < ns.length ∧ ns[i]?.getD 0 = p)) ∧ Below W.heap.size W w')
    (hP : ∀ W c cc d cd, IntsAt W c (1 :: List.replicate (m - 1) 0) → IntsAt W d (temps ss x ss.length) → Calls Try.prog 29 #[Ln.val ⟨m, n, lp, ld, ls, ln⟩, .slice c m cc, .slice d ss.length cd] W (RetL W xs at1 0))
    (hPL : at1 < 0 → ∀ W c cc, IntsAt W c xs → Calls Try.prog 51 #[.slice c xs.length cc, .int .i64 (n : Int)] W fun e w' => ∃ a' c', e = .returned (.slice a' nb c') ∧ IntsAt w' a' (ps.map p01) ∧ Below W.heap.size W w') (w : World) (hx : SpansAt w a ss) (hy : BytesAt w b x) :
    Calls Try.prog 14 #[Ln.val ⟨m, n, lp, ld, ls, ln⟩, .slice a ss.length ca, .slice b x.length cb] w fun e w' => e = .returned (.bool true) ∧ Below w.heap.size w w' := by
  obtain ⟨iI, hiI, hzI0, hzI1, hzI2⟩ := info_parts infoI
  have HA := hid hA
  have HC := hid hC
  have HX := hid hx
  have HY := hid hy
  have HP := hid hP
  have HPL := hid hPL
  have HSE := hid hse
  have HXB := hid hxb
  have HAT := hid hat
  have HPP := hid hp
  have hL0 := hid (lnAt_new' ⟨m, n, lp, ld, ls, ln⟩ w)
  obtain ⟨h1, h2, _⟩ := id h
  simp only at h1 h2
  clear hA hC hx hy hP hPL hse hxb hat hp h
  go_enter Try.func14, Try.ntmps14
  go_wp2_with (first
    | (go_at_call 32; refine (HC.out _ (HX.out.below (by (repeat (first | assumption | exact Below.refl _ _ | refine b_alloc ?_ _ | refine Below.drew ?_ | refine b_drewN ?_ _ | refine Below.setCell ?_ (by first | omega | (simp; done) | (simp; omega)) _ | refine b_call (by assumption) ?_))))).mono ?_; rintro e w1 ⟨ns, av, cv, rfl, hi, hns, hb1⟩; have HB1 := hid (show Below w.heap.size w w1 by (repeat (first | assumption | exact Below.refl _ _ | refine b_alloc ?_ _ | refine Below.drew ?_ | refine b_drewN ?_ _ | refine Below.setCell ?_ (by first | omega | (simp; done) | (simp; omega)) _ | refine b_call (by assumption) ?_))); have hL1 := hid (lnAt_call hL0.out hb1); have HI1 := hid hi; have HNS := hid hns; clear hb1 hi hns))
  have HBW := hid (b_alloc HB1.out (.cells #[.slice av ns.length cv, .bool lost] 42))
  have HLW := hid (lnAt_call hL1.out (b_alloc (Below.refl _ _) (.cells #[.slice av ns.length cv, .bool lost] 42)))
  have HCW := hid (And.intro (Cel.new w1 #[.slice av ns.length cv, .bool lost] 42 0 _ rfl) (Cel.new w1 #[.slice av ns.length cv, .bool lost] 42 1 _ rfl))
  have HIW := hid (HI1.out.below (b_alloc (Below.refl _ _) (.cells #[.slice av ns.length cv, .bool lost] 42)))
  have HXW := hid (HX.out.below HBW.out)
  have HYW := hid (HY.out.below HBW.out)
  generalize hW1 : World.alloc w1 (.cells #[.slice av ns.length cv, .bool lost] 42) = W1 at *
  clear hW1 HX HY HB1 HI1 hL0 hL1
  have hw0 : W1.ownsRow W1.heap.size 3 1 (.slice none 0 0) 0 ((temps ss x 0).map (Value.int .i64)) := ⟨by simp [temps], .inl ⟨rfl, by simp [temps]⟩⟩
  have hls2 : (ss.length : Int) ≤ 60 := by omega
  go_loopw [9, 10] (fun v i wr => ∃ k : Nat, k ≤ ss.length ∧ i = .int .i64 k ∧ wr.ownsRow W1.heap.size 3 1 v k ((temps ss x k).map (Value.int .i64)) ∧ Below W1.heap.size W1 wr) (fun _ i _ => ss.length - (intOf i).toNat)
  case atStart => exact ⟨0, Nat.zero_le _, rfl, hw0, Below.refl _ _⟩
  case round =>
    obtain ⟨k, hk, rfl, hrow, hbr⟩ := hrel
    have HROW := hid hrow
    have HB := hid hbr
    have hsz := hbr.size
    clear hrow hbr hw0
    by_cases hlt : k < ss.length
    · obtain ⟨sb, soff, rfl, hc1, hc2⟩ := (HXW.out.below HB.out) k hlt
      have hts := temps_succ ss x k
      have hse := HSE.out k hlt
      obtain ⟨sp, hsp⟩ : ∃ sp, ss[k]?.getD (0, 0) = sp := ⟨_, rfl⟩
      rw [hsp] at hc1 hc2 hts hse
      obtain ⟨lo, hi⟩ := sp
      simp only at hc1 hc2 hts hse
      have hbb := byteAt_bd HXB.out k
      obtain ⟨y, hy⟩ : ∃ y, byteAt x k = y := ⟨_, rfl⟩
      rw [hy] at hts hbb
      have HY2 := hid hy
      obtain ⟨t, ht⟩ : ∃ t, amongOf lo hi y = t := ⟨_, rfl⟩
      have ham := fun W => among_any lo hi y (by omega) (by omega) hse.2.2 hbb W
      rw [ht] at hts ham
      have HTS := hid hts
      have HAM := hid ham
      have k1 : (k : Int) < (ss.length : Int) := by omega
      have k0 : (0 : Int) ≤ (k : Int) := by omega
      clear hsp hy hts ham ht
      by_cases hx0 : 0 < x.length
      · obtain ⟨r, hr⟩ : ∃ r, k % x.length = r := ⟨_, rfl⟩
        have hrn : r < x.length := by rw [← hr]; exact Nat.mod_lt _ hx0
        have hti : (k : Int).tmod (x.length : Int) = (r : Int) := by rw [Int.tmod_eq_emod_of_nonneg (by omega), ← hr]; simp
        obtain ⟨bb, boff, rfl, hcb⟩ := (HYW.out.below HB.out) r hrn
        have hyr : x[r]?.getD 0 = y := by rw [← hr, ← HY2.out]; unfold byteAt; rw [if_pos hx0]
        rw [hyr] at hcb
        have n0 : (0 : Int) < (x.length : Int) := by omega
        have n1 : ¬ ((x.length : Int) = 0) := by omega
        have n2 : ¬ (x.length = 0) := by omega
        have r0 : (0 : Int) ≤ (r : Int) := by omega
        have r1 : (r : Int) < (x.length : Int) := by omega
        clear hyr hr
        go_wp2_with (first
          | (go_at_call 52; refine (HAM.out _).mono ?_; rintro e w2 ⟨rfl, hb2⟩; have HR2 := hid (ownsRow_below (b_call hb2 (by (repeat (first | assumption | exact Below.refl _ _ | refine b_alloc ?_ _ | refine Below.drew ?_ | refine b_drewN ?_ _ | refine Below.setCell ?_ (by first | omega | (simp; done) | (simp; omega)) _ | refine b_call (by assumption) ?_)))) HROW.out); have HB2 := hid (show Below W1.heap.size W1 w2 from b_call hb2 (by have hq := HB.out; (repeat (first | assumption | exact Below.refl _ _ | refine b_alloc ?_ _ | refine Below.drew ?_ | refine b_drewN ?_ _ | refine Below.setCell ?_ (by first | omega | (simp; done) | (simp; omega)) _ | refine b_call (by assumption) ?_)))); clear hb2)
          | (at_builtin; refine wpList_append_own _ rfl _ _ 35 rfl W1.heap.size 3 iI (.int .i64 0) 1 8 Try.underlying35 hiI hzI0 hzI1 hzI2 rfl (by decide) _ _ _ rfl (HR2.out.alloc _) ⟨w2.heap.size, 0, none⟩ 1 1 [.int .i64 t] rfl rfl (cell_one_new _ _ _) (by intro u hu; simp at hu; subst hu; rfl) (by unfold maxLen; omega) (by have := HB2.out.size; omega) (by have := HB2.out.size; simp; omega) ?_; intro v' w3 hown3 hg3 hnil))
        go_roundw
        case rel =>
          have hg1 := ownsRow_block HR2.out
          refine ⟨k + 1, by omega, by go_num, ?_, (b_alloc HB2.out _).grown hg3 (by have := HB2.out.size; simp; omega) (fun r e => by have := hg1 r e; omega)⟩
          rw [HTS.out, List.map_append]; exact hown3
        case measure => simp [intOf]; omega
      · have n2 : x.length = 0 := by omega
        have n3 : ¬ (0 : Int) < (x.length : Int) := by omega
        have hy0 : y = 0 := by rw [← HY2.out]; unfold byteAt; rw [if_neg hx0]
        subst hy0
        clear n2 hx0
        go_wp2_with (first
          | (go_at_call 52; refine (HAM.out _).mono ?_; rintro e w2 ⟨rfl, hb2⟩; have HR2 := hid (ownsRow_below (b_call hb2 (by (repeat (first | assumption | exact Below.refl _ _ | refine b_alloc ?_ _ | refine Below.drew ?_ | refine b_drewN ?_ _ | refine Below.setCell ?_ (by first | omega | (simp; done) | (simp; omega)) _ | refine b_call (by assumption) ?_)))) HROW.out); have HB2 := hid (show Below W1.heap.size W1 w2 from b_call hb2 (by have hq := HB.out; (repeat (first | assumption | exact Below.refl _ _ | refine b_alloc ?_ _ | refine Below.drew ?_ | refine b_drewN ?_ _ | refine Below.setCell ?_ (by first | omega | (simp; done) | (simp; omega)) _ | refine b_call (by assumption) ?_)))); clear hb2)
          | (at_builtin; refine wpList_append_own _ rfl _ _ 35 rfl W1.heap.size 3 iI (.int .i64 0) 1 8 Try.underlying35 hiI hzI0 hzI1 hzI2 rfl (by decide) _ _ _ rfl (HR2.out.alloc _) ⟨w2.heap.size, 0, none⟩ 1 1 [.int .i64 t] rfl rfl (cell_one_new _ _ _) (by intro u hu; simp at hu; subst hu; rfl) (by unfold maxLen; omega) (by have := HB2.out.size; omega) (by have := HB2.out.size; simp; omega) ?_; intro v' w3 hown3 hg3 hnil))
        go_roundw
        case rel =>
          have hg1 := ownsRow_block HR2.out
          refine ⟨k + 1, by omega, by go_num, ?_, (b_alloc HB2.out _).grown hg3 (by have := HB2.out.size; simp; omega) (fun r e => by have := hg1 r e; omega)⟩
          rw [HTS.out, List.map_append]; exact hown3
        case measure => simp [intOf]; omega
    · obtain rfl : k = ss.length := by omega
      obtain ⟨c, cc, rfl, hi⟩ := rowIntsI (xs := temps ss x ss.length) (by rw [temps_len]; exact HROW.out)
      rw [temps_len]
      have HI := hid hi
      clear hi HROW
      have hLr := hid (lnAt_call HLW.out HB.out)
      obtain ⟨d0, d1, d2, d3, d4, d5⟩ := hLr.out
      by_cases hneg : at1 < 0
      · have hat4 : ¬ 0 ≤ at1 := by omega
        have HPL2 := hid (HPL.out hneg)
        have HPP2 := hid (HPP.out hneg)
        clear HPL HPP HAT
        go_wp2_with (first
          | (refine wpList_make_full _ rfl _ _ 35 rfl W1.heap.size 3 iI (.int .i64 0) 1 Try.underlying35 hiI hzI0 hzI1 .i64 .i64 (m : Int) (m : Int) m rfl rfl rfl rfl (by rw [hzI2]; omega) (by unfold maxLen; omega) hsz ?_; intro w4 hown hgrow; obtain ⟨r0, r1, r2⟩ := one_row (by omega) hown; have hne := Nat.ne_of_gt (lnAt_lt hLr.out); have HB4 := hid (show Below wr.heap.size wr (w4.setCell ⟨wr.heap.size, 0, none⟩ (.int .i64 1)) from (below_of_grown hgrow).setCell (Nat.le_refl _) _); have hL4 := hid (lnAt_call hLr.out HB4.out); have HI4 := hid r2; have HT4 := hid (HI.out.below HB4.out); clear r2 hown hgrow hne d0 d1 d2 d3 d4 d5; obtain ⟨d0, d1, d2, d3, d4, d5⟩ := hL4.out)
          | (go_at_call 29; refine (HP.out _ _ _ _ _ HI4.out HT4.out).mono ?_; rintro e w5 ⟨a5, c5, rfl, hi5, hb5⟩; have HI5 := hid hi5; have HB5 := hid (b_call (b_call hb5 HB4.out) HB.out); clear hb5 hi5 d0 d1 d2 d3 d4 d5; obtain ⟨d0, d1, d2, d3, d4, d5⟩ := lnAt_call HLW.out HB5.out)
          | (go_at_call 51; refine (HPL2.out _ _ _ HI5.out).mono ?_; rintro e w6 ⟨a6, c6, rfl, hi6, hb6⟩; have HI6 := hid hi6; have HB6 := hid (b_call hb6 HB5.out); clear hb6 hi6))
        have HI6n := hid (HIW.out.below HB6.out)
        have HC6 := hid (HCW.out.1.call HB6.out)
        have hnl := HNS.out.2.2.1
        go_loopw [16, 17] (fun f i wx => ∃ (k : Nat) (fo : Bool), k ≤ ns.length ∧ i = .int .i64 k ∧ f = .bool fo ∧ (fo = true ↔ ∃ j, j < k ∧ ps[ns[j]?.getD 0]? = some true) ∧ Below w6.heap.size w6 wx) (fun _ i _ => ns.length - (intOf i).toNat)
        case atStart => exact ⟨0, false, Nat.zero_le _, rfl, rfl, by simp, Below.refl _ _⟩
        case round =>
          obtain ⟨k, fo, hk, rfl, rfl, hfo, hbx⟩ := hrel
          have HFO := hid hfo
          have HBX := hid hbx
          have c0 := (HC6.out.call hbx).1
          clear hfo hbx
          by_cases hlt : k < ns.length
          · have hlen : (ns.map fun k : Nat => (k : Int)).length = ns.length := by simp
            obtain ⟨ab, aoff, rfl, hcq⟩ := (HI6n.out.below HBX.out) k (by rw [hlen]; exact hlt)
            obtain ⟨q, hq⟩ : ∃ q, ns[k]?.getD 0 = q := ⟨_, rfl⟩
            have hqn := HNS.out.1 k hlt
            rw [hq] at hqn
            have hqv : (ns.map fun k : Nat => (k : Int))[k]?.getD 0 = (q : Int) := by rw [← hq]; simp [hlt]
            rw [hqv] at hcq
            have HQ := hid hq
            obtain ⟨bit, hbit⟩ : ∃ bit, ps[q]? = some bit := ⟨_, List.getElem?_eq_getElem (by omega)⟩
            obtain ⟨pb, poff, rfl, hcp⟩ := (HI6.out.below HBX.out) q (by simp; omega)
            have hpv : (ps.map p01)[q]?.getD 0 = p01 bit := by simp [hbit]
            rw [hpv] at hcp
            have HBIT := hid hbit
            have HNX := hid (show ∀ fo', (fo' = (fo || bit)) → (fo' = true ↔ ∃ j, j < k + 1 ∧ ps[ns[j]?.getD 0]? = some true) from fun fo' e => by
              rw [e, Bool.or_eq_true, HFO.out]
              constructor
              · rintro (⟨j, h1, h2⟩ | h)
                · exact ⟨j, by omega, h2⟩
                · exact ⟨k, by omega, by rw [HQ.out, HBIT.out, h]⟩
              · rintro ⟨j, h1, h2⟩
                by_cases e : j = k
                · rw [e, HQ.out, HBIT.out] at h2; exact .inr (by simpa using h2)
                · exact .inl ⟨j, by omega, h2⟩)
            have k1 : (k : Int) < (ns.length : Int) := by omega
            have k0 : (0 : Int) ≤ (k : Int) := by omega
            have q0 : (0 : Int) ≤ (q : Int) := by omega
            have q1 : (q : Int) < (nb : Int) := by omega
            have q2 : ¬ ((q : Int) < 0) := by omega
            have q3 : ¬ ((nb : Int) ≤ (q : Int)) := by omega
            have q3' : ¬ (nb ≤ q) := by omega
            clear hq hqv hpv hbit
            by_cases hk0 : k = 0
            · have HK0 := hid hk0
              clear hk0
              obtain ⟨qi, hqi⟩ : ∃ qi : Int, (q : Int) = qi := ⟨_, rfl⟩
              rw [hqi] at hcq q0 q1 q2 q3
              have HQI := hid hqi
              clear hqi q3'
              go_wp2
              have g1 : decide (qi < 0) = false := by have := HQI.out; simp; omega
              have g2 : decide ((nb : Int) ≤ qi) = false := by have := HQI.out; simp; omega
              have g3 : decide ((0 : Int) < (k : Int)) = false := by have := HK0.out; simp; omega
              have g4 : decide (0 < k) = false := by have := HK0.out; simp; omega
              go_big_quiet (fail)
              clear g1 g2 g3 g4
              obtain rfl := HQI.out
              cases fo <;> cases bit
              all_goals
                go_wp2
                go_roundw
                case rel => exact ⟨k + 1, _, by omega, by go_num, rfl, HNX.out _ (by first | rfl | (unfold p01; simp)), by have hq := HBX.out; (repeat (first | assumption | exact Below.refl _ _ | refine b_alloc ?_ _ | refine Below.drew ?_ | refine b_drewN ?_ _ | refine Below.setCell ?_ (by first | omega | (simp; done) | (simp; omega)) _ | refine b_call (by assumption) ?_))⟩
                case measure => simp [intOf]; omega
            · obtain ⟨j, hj⟩ : ∃ j, k - 1 = j := ⟨_, rfl⟩
              obtain ⟨_, _, eb, hcj⟩ := (HI6n.out.below HBX.out) j (by rw [hlen]; omega)
              cases eb
              obtain ⟨qj, hqj⟩ : ∃ qj, ns[j]?.getD 0 = qj := ⟨_, rfl⟩
              have hqv : (ns.map fun k : Nat => (k : Int))[j]?.getD 0 = (qj : Int) := by rw [← hqj]; simp [show j < ns.length by omega]
              have hlq := HNS.out.2.1 j (by omega)
              rw [show j + 1 = k by omega, HQ.out, hqj] at hlq
              rw [hqv] at hcj
              have q4 : ¬ ((q : Int) ≤ (qj : Int)) := by omega
              have q4' : ¬ (q ≤ qj) := by omega
              have j0' : 0 < k := by omega
              have j0 : (0 : Int) < (k : Int) := by omega
              have j1 : (0 : Int) ≤ (j : Int) := by omega
              have j2 : (j : Int) < (ns.length : Int) := by omega
              have wj : IntKind.i64.wrap ((k : Int) - 1) = (j : Int) := by rw [show (k : Int) - 1 = (j : Int) by omega]; exact IntWalk.i64_in _ (by omega)
              clear hj hk0
              clear hqj hqv
              go_wp2
              go_region_held3 (fun w' => w'.cell? ⟨w1.heap.size, 0, none⟩ = some (.slice (some ⟨ab, aoff, none⟩) ns.length cv) ∧ w'.cell? ⟨ab, aoff + k, none⟩ = some (.int .i64 (q : Int)) ∧ w'.cell? ⟨ab, aoff + j, none⟩ = some (.int .i64 (qj : Int)))
                (go_keep) (fail)
              cases fo <;> cases bit
              all_goals
                go_wp2
                go_roundw
                case rel => exact ⟨k + 1, _, by omega, by go_num, rfl, HNX.out _ (by first | rfl | (unfold p01; simp)), by have hq := HBX.out; (repeat (first | assumption | exact Below.refl _ _ | refine b_alloc ?_ _ | refine Below.drew ?_ | refine b_drewN ?_ _ | refine Below.setCell ?_ (by first | omega | (simp; done) | (simp; omega)) _ | refine b_call (by assumption) ?_))⟩
                case measure => simp [intOf]; omega
          · obtain rfl : k = ns.length := by omega
            have hf : fo = true := HFO.out.2 (by
              obtain ⟨i, h1, h2⟩ := HNS.out.2.2.2 hneg
              exact ⟨i, h1, by rw [h2]; exact HPP2.out⟩)
            subst hf
            go_wp2_with (go_at_call 22; refine (HA.out _).mono ?_; rintro e w7 ⟨rfl, hb7⟩; have HB7 := hid (b_call (b_call hb7 HBX.out) HB6.out); clear hb7)
            go_ret
            exact ⟨rfl, HBW.out.trans (HB7.out.mono HBW.out.size)⟩
      · have hat4 : 0 ≤ at1 := by omega
        obtain rfl := HAT.out hat4
        clear HPL HPP HAT
        go_wp2_with (first
          | (refine wpList_make_full _ rfl _ _ 35 rfl W1.heap.size 3 iI (.int .i64 0) 1 Try.underlying35 hiI hzI0 hzI1 .i64 .i64 (m : Int) (m : Int) m rfl rfl rfl rfl (by rw [hzI2]; omega) (by unfold maxLen; omega) hsz ?_; intro w4 hown hgrow; obtain ⟨r0, r1, r2⟩ := one_row (by omega) hown; have hne := Nat.ne_of_gt (lnAt_lt hLr.out); have HB4 := hid (show Below wr.heap.size wr (w4.setCell ⟨wr.heap.size, 0, none⟩ (.int .i64 1)) from (below_of_grown hgrow).setCell (Nat.le_refl _) _); have hL4 := hid (lnAt_call hLr.out HB4.out); have HI4 := hid r2; have HT4 := hid (HI.out.below HB4.out); clear r2 hown hgrow hne d0 d1 d2 d3 d4 d5; obtain ⟨d0, d1, d2, d3, d4, d5⟩ := hL4.out)
          | (go_at_call 29; refine (HP.out _ _ _ _ _ HI4.out HT4.out).mono ?_; rintro e w5 ⟨a5, c5, rfl, hi5, hb5⟩; have HB5 := hid (b_call (b_call hb5 HB4.out) HB.out); have q1 := (HCW.out.2.call HB5.out).1; clear hb5 hi5 d0 d1 d2 d3 d4 d5)
          | (go_at_call 22; refine (HA.out _).mono ?_; rintro e w6 ⟨rfl, hb6⟩; have HB6 := hid (show Below W1.heap.size W1 w6 from b_call hb6 (by have hq := HB5.out; (repeat (first | assumption | exact Below.refl _ _ | refine b_alloc ?_ _ | refine Below.drew ?_ | refine b_drewN ?_ _ | refine Below.setCell ?_ (by first | omega | (simp; done) | (simp; omega)) _ | refine b_call (by assumption) ?_)))); clear hb6))
        go_ret
        exact ⟨rfl, HBW.out.trans (HB6.out.mono HBW.out.size)⟩
end Go.Proofs.Ytlocdkjnefmiaaa
