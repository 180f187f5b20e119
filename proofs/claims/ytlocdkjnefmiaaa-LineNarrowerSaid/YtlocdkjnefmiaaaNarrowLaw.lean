/-
  The law LineNarrower, walked: given that Awake answers true.
-/
import Derived.StillTailTactics
import Derived.BigQuiet
import Derived.Test.YtlocdkjnefmiaaaAwake
import Derived.Test.YtlocdkjnefmiaaaGBack
import Derived.Test.YtlocdkjnefmiaaaRoundsLaw
import Derived.Test.YtlocdkjnefmiaaaNarrowMath
import Derived.Test.YtlocdkjnefmiaaaGCan
import Derived.Test.YtlocdkjnefmiaaaGSteps
namespace Go.Proofs.Ytlocdkjnefmiaaa
open Go.RowKit
set_option linter.unusedVariables false
set_option linter.unusedSimpArgs false

set_option maxRecDepth 100000 in
set_option maxHeartbeats 2000000 in
theorem narrower_err (hA : ∀ W, Calls Try.prog 22 #[] W (Ret W (.bool true))) (l : Ln) (a b : Option Addr) (ca cb nx : Nat) (ss : List (Int × Int)) (er : Int) (hne : er ≠ 0)
    (hC : ∀ W, SpansAt W a ss → Calls Try.prog 32 #[l.val, .slice a ss.length ca] W (Ret W (.tuple #[.agg #[.slice none 0 0, .bool false], .int .i64 er]))) (w : World) (hx : SpansAt w a ss) :
    Calls Try.prog 15 #[l.val, .slice a ss.length ca, .slice b nx cb] w fun e w' => e = .returned (.bool true) ∧ Below w.heap.size w w' := by
  have HA := hid hA
  have HC := hid hC
  have HX := hid hx
  have hL0 := hid (lnAt_new' l w)
  have hne' : (er != 0) = true := by simpa using hne
  clear hA hC hx
  go_enter Try.func15, Try.ntmps15
  go_wp2_with (first
    | (go_at_call 32; refine (HC.out _ (HX.out.below (by (repeat (first | assumption | exact Below.refl _ _ | refine b_alloc ?_ _ | refine Below.drew ?_ | refine b_drewN ?_ _ | refine Below.setCell ?_ (by first | omega | (simp; done) | (simp; omega)) _ | refine b_call (by assumption) ?_))))).mono ?_; rintro e w1 ⟨rfl, hb1⟩; have HB1 := hid (show Below w.heap.size w w1 by (repeat (first | assumption | exact Below.refl _ _ | refine b_alloc ?_ _ | refine Below.drew ?_ | refine b_drewN ?_ _ | refine Below.setCell ?_ (by first | omega | (simp; done) | (simp; omega)) _ | refine b_call (by assumption) ?_))); clear hb1)
    | (go_at_call 22; refine (HA.out _).mono ?_; rintro e w3 ⟨rfl, hb3⟩; have HB3 := hid (show Below w.heap.size w w3 from b_call hb3 (by have hq := HB1.out; (repeat (first | assumption | exact Below.refl _ _ | refine b_alloc ?_ _ | refine Below.drew ?_ | refine b_drewN ?_ _ | refine Below.setCell ?_ (by first | omega | (simp; done) | (simp; omega)) _ | refine b_call (by assumption) ?_)))); clear hb3))
  go_ret
  exact ⟨rfl, HB3.out⟩

theorem two_new' (W : World) (n : Nat) (x y : Value) (t : TypeId) (hn : n = W.heap.size) : ∀ (j : Nat) (u : Value), [x, y][j]? = some u → (W.alloc (.cells #[x, y] t)).cell? ((⟨n, 0, none⟩ : Addr).add j) = some u := by subst hn; exact two_new W x y t

set_option maxRecDepth 100000 in
set_option maxHeartbeats 4000000 in
theorem narrower_core (hA : ∀ W, Calls Try.prog 22 #[] W (Ret W (.bool true))) (l : Ln) (a b : Option Addr) (ca cb : Nat) (ss : List (Int × Int)) (hlt6 : ss.length ≤ 60) (hse : ∀ k, k < ss.length → spanErr (ss[k]?.getD (0, 0)) = 0)
    (x : List Int) (hxl : x.length ≤ 140737488351232) (hxb : bytesOk x) (lo1 lo2 : Bool) (hlo : lo2 = true → lo1 = true) (R1 R2 : Nat → Prop) (hR : ∀ n, R2 n → R1 n)
    (hC : ∀ W, SpansAt W a ss → Calls Try.prog 32 #[l.val, .slice a ss.length ca] W (CanRet W R1 lo1))
    (hD : ∀ W a' c', SpansAt W a' (lessTo ss x ss.length) → Calls Try.prog 32 #[l.val, .slice a' ss.length c'] W (CanRet W R2 lo2)) (w : World) (hx : SpansAt w a ss) (hy : BytesAt w b x) :
    Calls Try.prog 15 #[l.val, .slice a ss.length ca, .slice b x.length cb] w fun e w' => e = .returned (.bool true) ∧ Below w.heap.size w w' := by
  obtain ⟨iS, hiS, hzS0, hzS1, hzS2⟩ := info_parts Try.infoS
  have HA := hid hA
  have HC := hid hC
  have HD := hid hD
  have HX := hid hx
  have HY := hid hy
  have HSE := hid hse
  have HXB := hid hxb
  have HLO := hid hlo
  have HR := hid hR
  have hL0 := hid (lnAt_new' l w)
  clear hA hC hD hx hy hse hxb hlo hR
  go_enter Try.func15, Try.ntmps15
  go_wp2_with (first
    | (go_at_call 32; refine (HC.out _ (HX.out.below (by (repeat (first | assumption | exact Below.refl _ _ | refine b_alloc ?_ _ | refine Below.drew ?_ | refine b_drewN ?_ _ | refine Below.setCell ?_ (by first | omega | (simp; done) | (simp; omega)) _ | refine b_call (by assumption) ?_))))).mono ?_; rintro e w1 ⟨ns, av, cv, rfl, hi, has, hns, hnl, hb1⟩; have HB1 := hid (show Below w.heap.size w w1 by (repeat (first | assumption | exact Below.refl _ _ | refine b_alloc ?_ _ | refine Below.drew ?_ | refine b_drewN ?_ _ | refine Below.setCell ?_ (by first | omega | (simp; done) | (simp; omega)) _ | refine b_call (by assumption) ?_))); have hL1 := hid (lnAt_call hL0.out hb1); have HI1 := hid hi; have HNS := hid (And.intro has hns); clear hb1 hi has hns))
  have HBW := hid (b_alloc HB1.out (.cells #[.slice av ns.length cv, .bool lo1] 42))
  have HLW := hid (lnAt_call hL1.out (b_alloc (Below.refl _ _) (.cells #[.slice av ns.length cv, .bool lo1] 42)))
  have HCW := hid (And.intro (Cel.new w1 #[.slice av ns.length cv, .bool lo1] 42 0 _ rfl) (Cel.new w1 #[.slice av ns.length cv, .bool lo1] 42 1 _ rfl) : Cel _ w1.heap.size 0 (.slice av ns.length cv) ∧ Cel _ w1.heap.size 1 (.bool lo1))
  have HIW := hid (HI1.out.below (b_alloc (Below.refl _ _) (.cells #[.slice av ns.length cv, .bool lo1] 42)))
  have HXW := hid (HX.out.below HBW.out)
  have HYW := hid (HY.out.below HBW.out)
  generalize hW1 : World.alloc w1 (.cells #[.slice av ns.length cv, .bool lo1] 42) = W1 at *
  clear hW1 HX HY HB1 HI1 hL0 hL1
  have hw0 : W1.ownsRow W1.heap.size 31 2 (.slice none 0 0) 0 (cellsS (lessTo ss x 0)) := ⟨by simp [lessTo, cellsS], .inl ⟨rfl, rfl⟩⟩
  have hls2 : (ss.length : Int) ≤ 60 := by omega
  go_loopw [9, 10] (fun v i wr => ∃ k : Nat, k ≤ ss.length ∧ i = .int .i64 k ∧ wr.ownsRow W1.heap.size 31 2 v k (cellsS (lessTo ss x k)) ∧ Below W1.heap.size W1 wr) (fun _ i _ => ss.length - (intOf i).toNat)
  case atStart => exact ⟨0, Nat.zero_le _, rfl, hw0, Below.refl _ _⟩
  case round =>
    obtain ⟨k, hk, rfl, hrow, hbr⟩ := hrel
    have HROW := hid hrow
    have HB := hid hbr
    have hsz := hbr.size
    clear hrow hbr hw0
    by_cases hlt : k < ss.length
    · obtain ⟨sb, soff, rfl, hc1, hc2⟩ := (HXW.out.below HB.out) k hlt
      have hts := lessTo_succ ss x k
      have hse := HSE.out k hlt
      obtain ⟨sp, hsp⟩ : ∃ sp, ss[k]?.getD (0, 0) = sp := ⟨_, rfl⟩
      rw [hsp] at hc1 hc2 hts hse
      obtain ⟨lo, hi⟩ := sp
      obtain ⟨s1, s2, s3⟩ := spanErr_ok hse
      simp only at hc1 hc2 s1 s2 s3
      have hbb := byteAt_bd HXB.out k
      have hbc := byteAt_bd HXB.out (k + 1)
      have k1 : (k : Int) < (ss.length : Int) := by omega
      have k0 : (0 : Int) ≤ (k : Int) := by omega
      clear hsp hse
      by_cases hx0 : 0 < x.length
      · obtain ⟨r, hr⟩ : ∃ r, k % x.length = r := ⟨_, rfl⟩
        obtain ⟨q, hq⟩ : ∃ q, (k + 1) % x.length = q := ⟨_, rfl⟩
        have hrn : r < x.length := by rw [← hr]; exact Nat.mod_lt _ hx0
        have hqn : q < x.length := by rw [← hq]; exact Nat.mod_lt _ hx0
        have hti : (k : Int).tmod (x.length : Int) = (r : Int) := by rw [Int.tmod_eq_emod_of_nonneg (by omega), ← hr]; simp
        have htj : ((k : Int) + 1).tmod (x.length : Int) = (q : Int) := by rw [Int.tmod_eq_emod_of_nonneg (by omega), ← hq]; simp
        have wr1 : IntKind.i64.wrap (r : Int) = (r : Int) := IntWalk.i64_in _ (by omega)
        have wq1 : IntKind.i64.wrap (q : Int) = (q : Int) := IntWalk.i64_in _ (by omega)
        have wk1 : IntKind.i64.wrap ((k : Int) + 1) = (k : Int) + 1 := IntWalk.i64_in _ (by omega)
        obtain ⟨bb, boff, rfl, hcb⟩ := (HYW.out.below HB.out) r hrn
        obtain ⟨_, _, eb, hcc⟩ := (HYW.out.below HB.out) q hqn
        cases eb
        have hyr : x[r]?.getD 0 = byteAt x k := by rw [← hr]; unfold byteAt; rw [if_pos hx0]
        have hyq : x[q]?.getD 0 = byteAt x (k + 1) := by rw [← hq]; unfold byteAt; rw [if_pos hx0]
        rw [hyr] at hcb
        rw [hyq] at hcc
        generalize byteAt x k = y at *
        generalize byteAt x (k + 1) = z at *
        have p1 := part_bd (w := hi - lo) (by omega) hbb
        have p2 := part_bd (w := hi - lo) (by omega) hbc
        have u0 : IntKind.i64.wrap (hi - lo) = hi - lo := IntWalk.i64_in _ (by omega)
        have u1 : IntKind.i64.wrap ((hi - lo) * y) = (hi - lo) * y := IntWalk.i64_in _ (by omega)
        have u2 : IntKind.i64.wrap ((hi - lo) * z) = (hi - lo) * z := IntWalk.i64_in _ (by omega)
        have u3 : ((hi - lo) * y).tdiv 512 = (hi - lo) * y / 512 := Int.tdiv_eq_ediv_of_nonneg p1.1
        have u4 : ((hi - lo) * z).tdiv 512 = (hi - lo) * z / 512 := Int.tdiv_eq_ediv_of_nonneg p2.1
        have u5 : IntKind.i64.wrap ((hi - lo) * y / 512) = (hi - lo) * y / 512 := IntWalk.i64_in _ (by omega)
        have u6 : IntKind.i64.wrap ((hi - lo) * z / 512) = (hi - lo) * z / 512 := IntWalk.i64_in _ (by omega)
        have u7 : IntKind.i64.wrap (lo + (hi - lo) * y / 512) = lo + (hi - lo) * y / 512 := IntWalk.i64_in _ (by omega)
        have u8 : IntKind.i64.wrap (hi - (hi - lo) * z / 512) = hi - (hi - lo) * z / 512 := IntWalk.i64_in _ (by omega)
        have n0 : (0 : Int) < (x.length : Int) := by omega
        have n1 : ¬ ((x.length : Int) = 0) := by omega
        have n2 : ¬ (x.length = 0) := by omega
        have r0 : (0 : Int) ≤ (r : Int) := by omega
        have r1 : (r : Int) < (x.length : Int) := by omega
        have q0 : (0 : Int) ≤ (q : Int) := by omega
        have q1 : (q : Int) < (x.length : Int) := by omega
        have HTS := hid hts
        clear hyr hyq hr hq hts
        go_wp2
        have HBA := hid (b_alloc (Below.refl wr.heap.size wr) (.cells #[.int .i64 lo, .int .i64 hi] 31))
        have c4 := cell_later HBA.out hcb
        have c5 := cell_later HBA.out hcc
        obtain ⟨c0, f0⟩ := Cel.new wr #[.int .i64 lo, .int .i64 hi] 31 0 _ rfl
        obtain ⟨c1, f1⟩ := Cel.new wr #[.int .i64 lo, .int .i64 hi] 31 1 _ rfl
        have hza : wr.heap.size < (wr.alloc (.cells #[.int .i64 lo, .int .i64 hi] 31)).heap.size := by simp
        clear hcb hcc hc1 hc2
        generalize wr.alloc (.cells #[.int .i64 lo, .int .i64 hi] 31) = WA at *
        go_still_tail 29, (by kernel_rfl)
        change wpList _ _ _ _ _ (World.drew _)
        go_wp2_with (first
          | (go_at_call 45; refine (span_any _ _ _).mono ?_; rintro e w2 ⟨rfl, hb2⟩; obtain ⟨e0, e0f⟩ := Cel.call ⟨c0, f0⟩ (b_call hb2 (by (repeat (first | assumption | exact Below.refl _ _ | refine b_alloc ?_ _ | refine Below.drew ?_ | refine b_drewN ?_ _ | refine Below.setCell ?_ (by first | omega | (simp; done) | (simp; omega)) _ | refine b_call (by assumption) ?_)))); obtain ⟨e1, e1f⟩ := Cel.call ⟨c1, f1⟩ (b_call hb2 (by (repeat (first | assumption | exact Below.refl _ _ | refine b_alloc ?_ _ | refine Below.drew ?_ | refine b_drewN ?_ _ | refine Below.setCell ?_ (by first | omega | (simp; done) | (simp; omega)) _ | refine b_call (by assumption) ?_)))); have HB2 := hid (show Below wr.heap.size wr w2 from b_call (b_call hb2 (by (repeat (first | assumption | exact Below.refl _ _ | refine b_alloc ?_ _ | refine Below.drew ?_ | refine b_drewN ?_ _ | refine Below.setCell ?_ (by first | omega | (simp; done) | (simp; omega)) _ | refine b_call (by assumption) ?_)))) HBA.out); have HB3 := hid (show Below wr.heap.size wr ((w2.setCell ⟨wr.heap.size, 0, none⟩ (.int .i64 (lo + (hi - lo) * y / 512))).setCell ⟨wr.heap.size, 1, none⟩ (.int .i64 (hi - (hi - lo) * z / 512))) from (HB2.out.setCell (p := ⟨wr.heap.size, 0, none⟩) (Nat.le_refl _) _).setCell (p := ⟨wr.heap.size, 1, none⟩) (Nat.le_refl _) _); have HR3 := hid (ownsRow_below HB3.out HROW.out); clear hb2)
          | (at_builtin; refine wpList_append_own _ rfl _ _ 40 rfl W1.heap.size 31 iS (.agg #[.int .i64 0, .int .i64 0]) 2 16 Try.underlying40 hiS hzS0 hzS1 hzS2 rfl (by decide) _ _ _ rfl (HR3.out.alloc _) ⟨w2.heap.size, 0, none⟩ 1 1 [.int .i64 (lo + (hi - lo) * y / 512), .int .i64 (hi - (hi - lo) * z / 512)] rfl rfl (two_new' _ _ _ _ _ (by simp)) (by intro u hu; simp at hu; rcases hu with rfl | rfl <;> rfl) (by unfold maxLen; omega) (by have := HB2.out.size; omega) (by have := HB2.out.size; simp; omega) ?_; intro v' w3 hown3 hg3 hnil))
        go_roundw
        case rel =>
          have hg1 := ownsRow_block HR3.out
          refine ⟨k + 1, by omega, by go_num, ?_, (b_alloc (HB.out.trans (HB3.out.mono HB.out.size)) _).grown hg3 (by have := HB3.out.size; simp at this ⊢; omega) (fun r e => by have := hg1 r e; omega)⟩
          rw [HTS.out, cellsS_snoc]; exact hown3
        case measure => simp [intOf]; omega
      · have n3 : ¬ (0 : Int) < (x.length : Int) := by omega
        have hb0 : byteAt x k = 0 := by unfold byteAt; rw [if_neg hx0]
        have hb1 : byteAt x (k + 1) = 0 := by unfold byteAt; rw [if_neg hx0]
        rw [hb0, hb1, show lessOf (lo, hi) 0 0 = (lo, hi) by unfold lessOf; simp] at hts
        have HTS := hid hts
        have hw3 := hid (ownsRow_below (b_alloc (Below.refl _ _) (.cells #[.int .i64 lo, .int .i64 hi] 31)) HROW.out)
        clear hts hb0 hb1 hbb hbc hx0
        go_wp2_with (at_builtin; refine wpList_append_own _ rfl _ _ 40 rfl W1.heap.size 31 iS (.agg #[.int .i64 0, .int .i64 0]) 2 16 Try.underlying40 hiS hzS0 hzS1 hzS2 rfl (by decide) _ _ _ rfl (hw3.out.alloc _) ⟨wr.heap.size + 1, 0, none⟩ 1 1 [.int .i64 lo, .int .i64 hi] rfl rfl (two_new' _ _ _ _ _ (by simp)) (by intro u hu; simp at hu; rcases hu with rfl | rfl <;> rfl) (by unfold maxLen; omega) (by omega) (by simp; omega) ?_; intro v' w3 hown3 hg3 hnil)
        go_roundw
        case rel =>
          have hg1 := ownsRow_block hw3.out
          refine ⟨k + 1, by omega, by go_num, ?_, (b_alloc (b_alloc HB.out _) _).grown hg3 (by simp; omega) (fun r e => by have := hg1 r e; omega)⟩
          rw [HTS.out, cellsS_snoc]; exact hown3
        case measure => simp [intOf]; omega
    · obtain rfl : k = ss.length := by omega
      obtain ⟨a2, c2, rfl, hsp⟩ := rowSpans (ss := lessTo ss x ss.length) (by rw [lessTo_len]; exact HROW.out)
      rw [lessTo_len]
      have HSP := hid hsp
      clear hsp HROW
      have hLr := hid (lnAt_call HLW.out HB.out)
      obtain ⟨d0, d1, d2, d3, d4, d5⟩ := hLr.out
      have HCr := hid (And.intro (HCW.out.1.call HB.out) (HCW.out.2.call HB.out))
      have hcs : lo2 = false ∨ (lo2 = true ∧ lo1 = true) := by
        cases lo2
        · exact .inl rfl
        · exact .inr ⟨rfl, HLO.out rfl⟩
      clear HLO
      obtain ⟨lv, hlv⟩ : ∃ q : Bool, lo1 = q := ⟨_, rfl⟩
      rw [hlv] at hcs HCr
      clear hlv
      rcases hcs with rfl | ⟨rfl, rfl⟩
      · go_wp2_with (go_at_call 32; refine (HD.out _ _ _ HSP.out).mono ?_; rintro e w2 ⟨ms, am, cm, rfl, hi, hms, hmm, hml, hb2⟩; have HB2 := hid (b_call hb2 HB.out); have HC2 := hid (And.intro (HCr.out.1.call hb2) (HCr.out.2.call hb2)); have HI2 := hid (HIW.out.below HB2.out); have HM := hid hi; have HMS := hid (And.intro hms hmm); obtain ⟨q0, q1⟩ := HC2.out; have hlt12 := q1.lt; have hne12 := Nat.ne_of_lt hlt12; obtain ⟨q0, q0f⟩ := q0; obtain ⟨q1, q1f⟩ := q1; clear hb2 hi hms hmm d0 d1 d2 d3 d4 d5)
        have hsub : ∀ i, i < ms.length → ∃ p, p < ns.length ∧ ns[p]?.getD 0 = ms[i]?.getD 0 := fun i hi => index_of ((HNS.out.2 _).2 (HR.out _ ((HMS.out.2 _).1 (by simp [hi]))))
        have HSUB := hid hsub
        have HBV := hid (b_alloc (Below.refl w2.heap.size w2) (.cells #[.slice am ms.length cm, .bool false] 42))
        have HN := hid (HI2.out.below HBV.out)
        have HMM := hid (HM.out.below HBV.out)
        have HCN := hid (HC2.out.1.call HBV.out)
        have HCM := hid (Cel.new w2 #[.slice am ms.length cm, .bool false] 42 0 _ rfl : Cel _ w2.heap.size 0 (.slice am ms.length cm))
        have HBZ := hid (b_call HBV.out HB2.out)
        generalize World.alloc w2 (.cells #[.slice am ms.length cm, .bool false] 42) = W2 at *
        clear hsub q0 q0f q1 q1f HBV HC2 HI2 HM HCr hLr HSP
        go_loopw [14, 15] (fun kv iv wx => ∃ k i : Nat, k ≤ ns.length ∧ i ≤ ms.length ∧ kv = .int .i64 k ∧ iv = .int .i64 i ∧ (∀ j, j < k → ∀ i', i ≤ i' → i' < ms.length → ns[j]?.getD 0 < ms[i']?.getD 0) ∧ Below W2.heap.size W2 wx) (fun _ i _ => ms.length - (intOf i).toNat)
        case atStart => exact ⟨0, 0, Nat.zero_le _, Nat.zero_le _, rfl, rfl, fun j hj => by omega, Below.refl _ _⟩
        case round =>
          obtain ⟨k, i, hk, hi, rfl, rfl, hlow, hbx⟩ := hrel
          have HLOW := hid hlow
          have HBX := hid hbx
          have c0 := (HCM.out.call hbx).1
          have c1 := (HCN.out.call hbx).1
          clear hlow hbx
          by_cases hlt : i < ms.length
          · obtain ⟨p, hp, hpe⟩ := HSUB.out i hlt
            have HP := hid hpe
            clear hpe
            go_wp2
            obtain ⟨wo, rfl⟩ : ∃ wo : World, wo = wr := ⟨_, rfl⟩
            clear c0 c1
            go_loopw [14] (fun kv wy => ∃ k : Nat, k ≤ ns.length ∧ kv = .int .i64 k ∧ (∀ j, j < k → ns[j]?.getD 0 < ms[i]?.getD 0) ∧ Below W2.heap.size W2 wy) (fun kv _ => ns.length - (intOf kv).toNat)
            case atStart => exact ⟨k, hk, rfl, fun j hj => HLOW.out j hj i (Nat.le_refl _) hlt, HBX.out⟩
            case round =>
              obtain ⟨k, hk, rfl, hlow, hbx⟩ := hrel
              have HLW2 := hid hlow
              have HBX2 := hid hbx
              have c0 := (HCM.out.call hbx).1
              have c1 := (HCN.out.call hbx).1
              have hkp : k ≤ p := by
                by_cases g : k ≤ p
                · exact g
                · have := HLW2.out p (by omega); rw [HP.out] at this; omega
              have hkl : k < ns.length := by omega
              have hqp : ns[k]?.getD 0 ≤ ms[i]?.getD 0 := by
                rw [← HP.out]
                by_cases g : k = p
                · rw [g]; exact Nat.le_refl _
                · exact Nat.le_of_lt (HNS.out.1 k p (by omega) hp)
              have hln : (ns.map fun k : Nat => (k : Int)).length = ns.length := by simp
              have hlm : (ms.map fun k : Nat => (k : Int)).length = ms.length := by simp
              obtain ⟨nb, noff, rfl, hcn⟩ := (HN.out.below hbx) k (by rw [hln]; exact hkl)
              obtain ⟨mb, moff, rfl, hcm⟩ := (HMM.out.below hbx) i (by rw [hlm]; exact hlt)
              obtain ⟨qa, hqa⟩ : ∃ q, ns[k]?.getD 0 = q := ⟨_, rfl⟩
              obtain ⟨qb, hqb⟩ : ∃ q, ms[i]?.getD 0 = q := ⟨_, rfl⟩
              have hva : (ns.map fun k : Nat => (k : Int))[k]?.getD 0 = (qa : Int) := by rw [← hqa]; simp [hkl]
              have hvb : (ms.map fun k : Nat => (k : Int))[i]?.getD 0 = (qb : Int) := by rw [← hqb]; simp [hlt]
              rw [hva] at hcn
              rw [hvb] at hcm
              rw [hqa, hqb] at hqp
              have HQA := hid hqa
              have HQB := hid hqb
              have k0 : (0 : Int) ≤ (k : Int) := by omega
              have k1 : (k : Int) < (ns.length : Int) := by omega
              have i0 : (0 : Int) ≤ (i : Int) := by omega
              have i1 : (i : Int) < (ms.length : Int) := by omega
              have hkne : ¬ k = ns.length := by omega
              clear hqa hqb hva hvb hln hlm hlow hbx
              by_cases hq : qa < qb
              · go_wp2
                go_big_quiet (fail)
                go_wp2
                go_roundw
                case rel =>
                  refine ⟨k + 1, by omega, by go_num, fun j hj => ?_, by have hq := HBX2.out; (repeat (first | assumption | exact Below.refl _ _ | refine b_alloc ?_ _ | refine Below.drew ?_ | refine b_drewN ?_ _ | refine Below.setCell ?_ (by first | omega | (simp; done) | (simp; omega)) _ | refine b_call (by assumption) ?_))⟩
                  by_cases g : j = k
                  · rw [g, HQA.out, HQB.out]; exact hq
                  · exact HLW2.out j (by omega)
                case measure => simp [intOf]; omega
              · obtain rfl : qa = qb := by omega
                have hkb : ((k : Int) == (ns.length : Int)) = false := by simp; omega
                go_wp2
                go_big_quiet (fail)
                go_wp2
                have hkb : ((k : Int) == (ns.length : Int)) = false := by simp; omega
                go_big_quiet (fail)
                clear hkb
                go_wp2
                go_roundw
                case rel =>
                  refine ⟨k, i + 1, by omega, by omega, rfl, by go_num, fun j hj i' hi' hl' => ?_, by have hq := HBX2.out; (repeat (first | assumption | exact Below.refl _ _ | refine b_alloc ?_ _ | refine Below.drew ?_ | refine b_drewN ?_ _ | refine Below.setCell ?_ (by first | omega | (simp; done) | (simp; omega)) _ | refine b_call (by assumption) ?_))⟩
                  have h1 := HMS.out.1 i i' (by omega) hl'
                  have h2 := HLW2.out j hj
                  omega
                case measure => simp [intOf]; omega
          · obtain rfl : i = ms.length := by omega
            go_wp2_with (go_at_call 22; refine (HA.out _).mono ?_; rintro e w7 ⟨rfl, hb7⟩; have HB7 := hid (b_call (b_call hb7 HBX.out) HBZ.out); clear hb7)
            go_ret
            exact ⟨rfl, HBW.out.trans (HB7.out.mono HBW.out.size)⟩
      · go_wp2_with (go_at_call 32; refine (HD.out _ _ _ HSP.out).mono ?_; rintro e w2 ⟨ms, am, cm, rfl, hi, hms, hmm, hml, hb2⟩; have HB2 := hid (b_call hb2 HB.out); have HC2 := hid (And.intro (HCr.out.1.call hb2) (HCr.out.2.call hb2)); have HI2 := hid (HIW.out.below HB2.out); have HM := hid hi; have HMS := hid (And.intro hms hmm); obtain ⟨q0, q1⟩ := HC2.out; have hlt12 := q1.lt; have hne12 := Nat.ne_of_lt hlt12; obtain ⟨q0, q0f⟩ := q0; obtain ⟨q1, q1f⟩ := q1; clear hb2 hi hms hmm d0 d1 d2 d3 d4 d5)
        have hsub : ∀ i, i < ms.length → ∃ p, p < ns.length ∧ ns[p]?.getD 0 = ms[i]?.getD 0 := fun i hi => index_of ((HNS.out.2 _).2 (HR.out _ ((HMS.out.2 _).1 (by simp [hi]))))
        have HSUB := hid hsub
        have HBV := hid (b_alloc (Below.refl w2.heap.size w2) (.cells #[.slice am ms.length cm, .bool true] 42))
        have HN := hid (HI2.out.below HBV.out)
        have HMM := hid (HM.out.below HBV.out)
        have HCN := hid (HC2.out.1.call HBV.out)
        have HCM := hid (Cel.new w2 #[.slice am ms.length cm, .bool true] 42 0 _ rfl : Cel _ w2.heap.size 0 (.slice am ms.length cm))
        have HBZ := hid (b_call HBV.out HB2.out)
        generalize World.alloc w2 (.cells #[.slice am ms.length cm, .bool true] 42) = W2 at *
        clear hsub q0 q0f q1 q1f HBV HC2 HI2 HM HCr hLr HSP
        go_loopw [14, 15] (fun kv iv wx => ∃ k i : Nat, k ≤ ns.length ∧ i ≤ ms.length ∧ kv = .int .i64 k ∧ iv = .int .i64 i ∧ (∀ j, j < k → ∀ i', i ≤ i' → i' < ms.length → ns[j]?.getD 0 < ms[i']?.getD 0) ∧ Below W2.heap.size W2 wx) (fun _ i _ => ms.length - (intOf i).toNat)
        case atStart => exact ⟨0, 0, Nat.zero_le _, Nat.zero_le _, rfl, rfl, fun j hj => by omega, Below.refl _ _⟩
        case round =>
          obtain ⟨k, i, hk, hi, rfl, rfl, hlow, hbx⟩ := hrel
          have HLOW := hid hlow
          have HBX := hid hbx
          have c0 := (HCM.out.call hbx).1
          have c1 := (HCN.out.call hbx).1
          clear hlow hbx
          by_cases hlt : i < ms.length
          · obtain ⟨p, hp, hpe⟩ := HSUB.out i hlt
            have HP := hid hpe
            clear hpe
            go_wp2
            obtain ⟨wo, rfl⟩ : ∃ wo : World, wo = wr := ⟨_, rfl⟩
            clear c0 c1
            go_loopw [14] (fun kv wy => ∃ k : Nat, k ≤ ns.length ∧ kv = .int .i64 k ∧ (∀ j, j < k → ns[j]?.getD 0 < ms[i]?.getD 0) ∧ Below W2.heap.size W2 wy) (fun kv _ => ns.length - (intOf kv).toNat)
            case atStart => exact ⟨k, hk, rfl, fun j hj => HLOW.out j hj i (Nat.le_refl _) hlt, HBX.out⟩
            case round =>
              obtain ⟨k, hk, rfl, hlow, hbx⟩ := hrel
              have HLW2 := hid hlow
              have HBX2 := hid hbx
              have c0 := (HCM.out.call hbx).1
              have c1 := (HCN.out.call hbx).1
              have hkp : k ≤ p := by
                by_cases g : k ≤ p
                · exact g
                · have := HLW2.out p (by omega); rw [HP.out] at this; omega
              have hkl : k < ns.length := by omega
              have hqp : ns[k]?.getD 0 ≤ ms[i]?.getD 0 := by
                rw [← HP.out]
                by_cases g : k = p
                · rw [g]; exact Nat.le_refl _
                · exact Nat.le_of_lt (HNS.out.1 k p (by omega) hp)
              have hln : (ns.map fun k : Nat => (k : Int)).length = ns.length := by simp
              have hlm : (ms.map fun k : Nat => (k : Int)).length = ms.length := by simp
              obtain ⟨nb, noff, rfl, hcn⟩ := (HN.out.below hbx) k (by rw [hln]; exact hkl)
              obtain ⟨mb, moff, rfl, hcm⟩ := (HMM.out.below hbx) i (by rw [hlm]; exact hlt)
              obtain ⟨qa, hqa⟩ : ∃ q, ns[k]?.getD 0 = q := ⟨_, rfl⟩
              obtain ⟨qb, hqb⟩ : ∃ q, ms[i]?.getD 0 = q := ⟨_, rfl⟩
              have hva : (ns.map fun k : Nat => (k : Int))[k]?.getD 0 = (qa : Int) := by rw [← hqa]; simp [hkl]
              have hvb : (ms.map fun k : Nat => (k : Int))[i]?.getD 0 = (qb : Int) := by rw [← hqb]; simp [hlt]
              rw [hva] at hcn
              rw [hvb] at hcm
              rw [hqa, hqb] at hqp
              have HQA := hid hqa
              have HQB := hid hqb
              have k0 : (0 : Int) ≤ (k : Int) := by omega
              have k1 : (k : Int) < (ns.length : Int) := by omega
              have i0 : (0 : Int) ≤ (i : Int) := by omega
              have i1 : (i : Int) < (ms.length : Int) := by omega
              have hkne : ¬ k = ns.length := by omega
              clear hqa hqb hva hvb hln hlm hlow hbx
              by_cases hq : qa < qb
              · go_wp2
                go_big_quiet (fail)
                go_wp2
                go_roundw
                case rel =>
                  refine ⟨k + 1, by omega, by go_num, fun j hj => ?_, by have hq := HBX2.out; (repeat (first | assumption | exact Below.refl _ _ | refine b_alloc ?_ _ | refine Below.drew ?_ | refine b_drewN ?_ _ | refine Below.setCell ?_ (by first | omega | (simp; done) | (simp; omega)) _ | refine b_call (by assumption) ?_))⟩
                  by_cases g : j = k
                  · rw [g, HQA.out, HQB.out]; exact hq
                  · exact HLW2.out j (by omega)
                case measure => simp [intOf]; omega
              · obtain rfl : qa = qb := by omega
                have hkb : ((k : Int) == (ns.length : Int)) = false := by simp; omega
                go_wp2
                go_big_quiet (fail)
                go_wp2
                have hkb : ((k : Int) == (ns.length : Int)) = false := by simp; omega
                go_big_quiet (fail)
                clear hkb
                go_wp2
                go_roundw
                case rel =>
                  refine ⟨k, i + 1, by omega, by omega, rfl, by go_num, fun j hj i' hi' hl' => ?_, by have hq := HBX2.out; (repeat (first | assumption | exact Below.refl _ _ | refine b_alloc ?_ _ | refine Below.drew ?_ | refine b_drewN ?_ _ | refine Below.setCell ?_ (by first | omega | (simp; done) | (simp; omega)) _ | refine b_call (by assumption) ?_))⟩
                  have h1 := HMS.out.1 i i' (by omega) hl'
                  have h2 := HLW2.out j hj
                  omega
                case measure => simp [intOf]; omega
          · obtain rfl : i = ms.length := by omega
            go_wp2_with (go_at_call 22; refine (HA.out _).mono ?_; rintro e w7 ⟨rfl, hb7⟩; have HB7 := hid (b_call (b_call hb7 HBX.out) HBZ.out); clear hb7)
            go_ret
            exact ⟨rfl, HBW.out.trans (HB7.out.mono HBW.out.size)⟩
end Go.Proofs.Ytlocdkjnefmiaaa
