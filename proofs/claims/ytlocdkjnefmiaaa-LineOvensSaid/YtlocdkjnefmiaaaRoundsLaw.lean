/-
  The law LineRounds, walked: given that Awake answers true.
-/
import Derived.Deep.RegionWith
import Derived.Deep.RegionHeld3
import Derived.Test.YtlocdkjnefmiaaaGBack
namespace Go.Proofs.Ytlocdkjnefmiaaa
open Go.RowKit
set_option linter.unusedVariables false
set_option linter.unusedSimpArgs false

theorem ownsRow_below {W W' : World} (hb : Below W.heap.size W W') {base t size : Nat} {v : Value} {n : Nat} {xs : List Value} (hv : W.ownsRow base t size v n xs) : W'.ownsRow base t size v n xs :=
  ⟨hv.1, hv.2.imp id (fun ⟨g, cap, cur, e, hg, hh, r⟩ => ⟨g, cap, cur, e, hg, (hb.block g (Array.getElem?_eq_some_iff.1 hh).1).trans hh, r⟩)⟩

theorem Shift_r (l : Ln) (h : l.Ok) (t : Int) (ht : Temp t) (W : World) : Calls Try.prog 23 #[l.val, .int .i64 t] W (Ret W (.tuple #[.int .i64 (l.rS t), .bool (l.rL t), .int .i64 0])) := by
  cases hs : l.shift t with
  | none => have := Shift_lost l h t ht hs W; unfold Ln.rS Ln.rL; rw [hs]; exact this
  | some s => have := Shift_is l h t ht s hs W; unfold Ln.rS Ln.rL; rw [hs]; exact this

set_option maxRecDepth 100000 in
set_option maxHeartbeats 8000000 in
theorem rounds_core (hA : ∀ W, Calls Try.prog 22 #[] W (Ret W (.bool true))) (m n : Nat) (lp ld ls ln : Int) (h : (Ln.mk m n lp ld ls ln).Ok) (a b : Option Addr) (ca cb : Nat) (ws ts : List Int) (hlt : ts.length ≤ 60) (ht : tempsOk ts) (w : World) (hx : IntsAt w a ws) (hy : IntsAt w b ts)
    (xs : List Int) (at1 at2 : Int) (hxm : xs.length ≤ 64) (hat : -1 ≤ at1 ∧ at1 < ts.length) (hlost : ∀ j, j < ts.length → (((Ln.mk m n lp ld ls ln).rL (ts[j]?.getD 0) = true ∧ 0 ≤ at1 ∧ at1 ≤ j) ∨ ((Ln.mk m n lp ld ls ln).rL (ts[j]?.getD 0) = false ∧ at1 ≠ j)))
    (ps qs : List Int) (L : Nat) (K : Int) (hps : ps.length = L) (hqs : qs.length = L) (hK : 0 ≤ at1 → K = 0)
    (hO1 : ∀ W c cc, IntsAt W c xs → Calls Try.prog 48 #[.slice c xs.length cc] W fun e w' => e = .returned (.int .i64 K) ∧ W = w')
    (hO2 : at1 < 0 → ∀ W, IntsAt W a ws → Calls Try.prog 48 #[.slice a ws.length ca] W fun e w' => e = .returned (.int .i64 K) ∧ W = w')
    (hPL : ∀ W, IntsAt W a ws → Calls Try.prog 51 #[.slice a ws.length ca, .int .i64 (n : Int)] W fun e w' => ∃ a' c', e = .returned (.slice a' L c') ∧ IntsAt w' a' ps ∧ Below W.heap.size W w')
    (hLT : ∀ W c cc, IntsAt W c ps → Calls Try.prog 50 #[.slice c L cc, .int .i64 (sumT ⟨m, n, lp, ld, ls, ln⟩ ts ts.length)] W fun e w' => ∃ a' c', e = .returned (.slice a' L c') ∧ IntsAt w' a' qs ∧ Below W.heap.size W w')
    (hJN : at1 < 0 → ∀ W c cc, IntsAt W c qs → Calls Try.prog 49 #[.slice c L cc, .int .i64 (n : Int)] W fun e w' => ∃ a' c', e = .returned (.slice a' xs.length c') ∧ IntsAt w' a' xs ∧ Below W.heap.size W w')
    (hP1 : ∀ W, IntsAt W a ws → IntsAt W b ts → Calls Try.prog 29 #[Ln.val ⟨m, n, lp, ld, ls, ln⟩, .slice a ws.length ca, .slice b ts.length cb] W (RetL W xs at1 0))
    (hP2 : ∀ W c cc, IntsAt W a ws → IntsAt W c ts.reverse → Calls Try.prog 29 #[Ln.val ⟨m, n, lp, ld, ls, ln⟩, .slice a ws.length ca, .slice c ts.length cc] W (RetL W xs at2 0)) :
    Calls Try.prog 12 #[Ln.val ⟨m, n, lp, ld, ls, ln⟩, .slice a ws.length ca, .slice b ts.length cb] w fun e w' => e = .returned (.bool true) ∧ Below w.heap.size w w' := by
  obtain ⟨iI, hiI, hzI0, hzI1, hzI2⟩ := info_parts infoI
  have HA := hid hA
  have HX := hid hx
  have HY := hid hy
  have HP1 := hid hP1
  have HP2 := hid hP2
  have HO1 := hid hO1
  have HO2 := hid hO2
  have HPL := hid hPL
  have HLT := hid hLT
  have HJN := hid hJN
  have HLO := hid hlost
  have HT := hid ht
  have hL0 := hid (lnAt_new' ⟨m, n, lp, ld, ls, ln⟩ w)
  have HOK := hid h
  have hlt2 : (ts.length : Int) ≤ 60 := by omega
  obtain ⟨hat0, hat1⟩ := hat
  have HINT := hid (show ∀ W c cc c2 cc2, IntsAt W c xs → IntsAt W c2 xs → Calls Try.prog 31 #[.slice c xs.length cc, .slice c2 xs.length cc2] W (Ret W (.bool true)) from fun W c cc c2 cc2 g1 g2 => by
    have := Ints_any c c2 cc cc2 xs xs (by omega) (by omega) W g1 g2
    simpa using this)
  clear hA hx hy hP1 hP2 hO1 hO2 hPL hLT hJN hlost ht h
  go_enter Try.func12, Try.ntmps12
  go_wp2_with (go_at_call 29; refine (HP1.out _ (HX.out.below (by (repeat (first | assumption | exact Below.refl _ _ | refine b_alloc ?_ _ | refine Below.drew ?_ | refine b_drewN ?_ _ | refine Below.setCell ?_ (by first | omega | (simp; done) | (simp; omega)) _ | refine b_call (by assumption) ?_)))) (HY.out.below (by (repeat (first | assumption | exact Below.refl _ _ | refine b_alloc ?_ _ | refine Below.drew ?_ | refine b_drewN ?_ _ | refine Below.setCell ?_ (by first | omega | (simp; done) | (simp; omega)) _ | refine b_call (by assumption) ?_))))).mono ?_; rintro e w1 ⟨a1, c1, rfl, hi, hb1⟩; have HB1 := hid (show Below w.heap.size w w1 by (repeat (first | assumption | exact Below.refl _ _ | refine b_alloc ?_ _ | refine Below.drew ?_ | refine b_drewN ?_ _ | refine Below.setCell ?_ (by first | omega | (simp; done) | (simp; omega)) _ | refine b_call (by assumption) ?_))); have HI1 := hid hi; have hL1 := hid (lnAt_call hL0.out hb1); clear hb1 hi)
  obtain ⟨l, hl⟩ : ∃ l : Ln, Ln.mk m n lp ld ls ln = l := ⟨_, rfl⟩
  have HL0 := hid hl
  have hBn : (n : Int) = l.B := by rw [← hl]
  rw [hl] at hL1 HLO HOK HLT HP2
  rw [hBn] at HPL HJN
  clear hBn
  have hw0 : w1.ownsRow w1.heap.size 3 1 (.slice none 0 0) 0 ((ts.reverse.take 0).map (Value.int .i64)) := ⟨by simp, .inl ⟨rfl, by simp⟩⟩
  clear hl
  go_loopw [10, 11, 12] (fun v s i wr => ∃ k : Nat, k ≤ ts.length ∧ i = .int .i64 k ∧ s = .int .i64 (sumT l ts k) ∧ wr.ownsRow w1.heap.size 3 1 v k ((ts.reverse.take k).map (Value.int .i64)) ∧ Below w1.heap.size w1 wr) (fun _ _ i _ => ts.length - (intOf i).toNat)
  case atStart => exact ⟨0, Nat.zero_le _, rfl, by simp [sumT], hw0, Below.refl _ _⟩
  case round =>
    obtain ⟨k, hk, rfl, rfl, hrow, hbr⟩ := hrel
    have HROW := hid hrow
    have HB := hid hbr
    clear hrow hbr hw0
    have hsb := sumT_bd HOK.out HT.out k hk
    by_cases hlt3 : k < ts.length
    · obtain ⟨bb, off, rfl, hc⟩ := ((HY.out.below HB1.out).below HB.out) k hlt3
      have hrev : ∃ y, ts[ts.length - 1 - k]?.getD 0 = y := ⟨_, rfl⟩
      obtain ⟨y, hyv⟩ := hrev
      obtain ⟨b2, off2, eb, hcr⟩ := ((HY.out.below HB1.out).below HB.out) (ts.length - 1 - k) (by omega)
      cases eb
      rw [hyv] at hcr
      have hix : (ts.length : Int) - 1 - (k : Int) = ((ts.length - 1 - k : Nat) : Int) := by omega
      have hrs : ts.reverse.take (k + 1) = ts.reverse.take k ++ [y] := by
        rw [List.take_succ_eq_append_getElem (by simpa using hlt3), List.getElem_reverse]
        congr 2
        simpa [show ts.length - 1 - k < ts.length by omega] using hyv
      obtain ⟨r, hr⟩ : ∃ r, ts.length - 1 - k = r := ⟨_, rfl⟩
      rw [hr] at hcr hix
      have hrl : (r : Int) < (ts.length : Int) := by omega
      have hr0 : (0 : Int) ≤ (r : Int) := by omega
      have HRS := hid hrs
      have HIX := hid hix
      have hsz := HB.out.size
      have wsub : IntKind.i64.wrap ((ts.length : Int) - 1 - (k : Int)) = (r : Int) := by rw [hix]; exact IntWalk.i64_in _ (by omega)
      have htk0 : Temp (ts[k]?.getD 0) := HT.out _ (by simp [hlt3])
      have hss := sumT_succ l ts k hlt3
      have hsb1 := sumT_bd HOK.out HT.out (k + 1) (by omega)
      have hlo := HLO.out k hlt3
      have hsh := Shift_r l HOK.out _ htk0
      have HSH := hid hsh
      obtain ⟨tk, htk⟩ : ∃ tk, ts[k]?.getD 0 = tk := ⟨_, rfl⟩
      have HCF := hid (show ∀ W, Below w1.heap.size w1 W → W.cell? ⟨bb, off + k, none⟩ = some (.int .i64 (ts[k]?.getD 0)) from fun W g => by
        obtain ⟨_, _, e, c⟩ := ((HY.out.below HB1.out).below g) k hlt3
        cases e; exact c)
      have HTK := hid htk
      rw [htk] at hc hss hlo HSH
      obtain ⟨s, hs⟩ : ∃ s, l.rS tk = s := ⟨_, rfl⟩
      obtain ⟨q, hq⟩ : ∃ q, l.rL tk = q := ⟨_, rfl⟩
      rw [hs, hq] at HSH
      rw [hs] at hss
      rw [hq] at hlo
      rw [hss] at hsb1
      have HSS := hid hss
      have HC := hid hc
      clear hyv hr hsh htk hs hq hss htk0 hc
      generalize sumT l ts k = sk at *
      go_wp2_with (at_builtin; refine wpList_append_own _ rfl _ _ 35 rfl w1.heap.size 3 iI (.int .i64 0) 1 8 Try.underlying35 hiI hzI0 hzI1 hzI2 rfl (by decide) _ _ _ rfl (HROW.out.alloc _) ⟨wr.heap.size, 0, none⟩ 1 1 [.int .i64 y] rfl rfl (cell_one_new _ _ _) (by intro u hu; simp at hu; subst hu; rfl) (by unfold maxLen; omega) (by omega) (by simp; omega) ?_; intro v' w3 hown3 hg3 hnil)
      have hg1 := ownsRow_block HROW.out
      have hb3 := (b_alloc HB.out (.cells #[.int .i64 y] 3)).grown hg3 (by simp; omega) (fun r e => by have := hg1 r e; omega)
      have HB3 := hid hb3
      have HG3 := hid hg3
      have HOWN := hid hown3
      obtain ⟨d0, d1, d2, d3, d4, d5⟩ := lnAt_call hL1.out hb3
      have hcc := HCF.out _ hb3
      rw [HTK.out] at hcc
      have k1 : (k : Int) < (ts.length : Int) := by omega
      have k0 : (0 : Int) ≤ (k : Int) := by omega
      clear hg3 hown3 hb3 hcr HCF wsub
      go_region_held3 (fun w' => w'.cell? ⟨w.heap.size, 0, none⟩ = some (.int .i64 l.W) ∧ w'.cell? ⟨w.heap.size, 1, none⟩ = some (.int .i64 l.B) ∧ w'.cell? ⟨w.heap.size, 2, none⟩ = some (.int .i64 l.P) ∧ w'.cell? ⟨w.heap.size, 3, none⟩ = some (.int .i64 l.D) ∧ w'.cell? ⟨w.heap.size, 4, none⟩ = some (.int .i64 l.S) ∧ w'.cell? ⟨w.heap.size, 5, none⟩ = some (.int .i64 l.N) ∧ w'.cell? ⟨bb, off + k, none⟩ = some (.int .i64 tk))
        (first | go_keep | (go_split_ands; refine ⟨?_, ?_, ?_, ?_, ?_, ?_, ?_⟩ <;> exact cell_later (by assumption) (by assumption)))
        (first | (go_at_call 23; refine (HSH.out _).mono ?_; rintro e w4 ⟨rfl, hb4⟩))
      have HB4 := hid (show Below w1.heap.size w1 w4 from b_call hb4 (by have hq := HB3.out; (repeat (first | assumption | exact Below.refl _ _ | refine b_alloc ?_ _ | refine Below.drew ?_ | refine b_drewN ?_ _ | refine Below.setCell ?_ (by first | omega | (simp; done) | (simp; omega)) _ | refine b_call (by assumption) ?_))))
      have HOWN4 := hid (show w4.ownsRow w1.heap.size 3 1 v' (k + 1) ((ts.reverse.take (k + 1)).map (Value.int .i64)) from by
        rw [HRS.out, List.map_append]; exact ownsRow_below (b_call hb4 (by (repeat (first | assumption | exact Below.refl _ _ | refine b_alloc ?_ _ | refine Below.drew ?_ | refine b_drewN ?_ _ | refine Below.setCell ?_ (by first | omega | (simp; done) | (simp; omega)) _ | refine b_call (by assumption) ?_)))) HOWN.out)
      clear hb4 HROW HG3 HOWN HB d0 d1 d2 d3 d4 d5 hcc HSH
      have HLO2 := hid hlo
      rcases hlo with ⟨rfl, g1, g2⟩ | ⟨rfl, g1⟩
      · have g3 : ¬ at1 < 0 := by omega
        have g4 : ¬ (k : Int) < at1 := by omega
        go_wp2
        go_roundw
        case rel => exact ⟨k + 1, by omega, by go_num, by rw [HSS.out], HOWN4.out, HB4.out⟩
        case measure => simp [intOf]; omega
      · have g4 : ¬ (at1 = (k : Int)) := by omega
        go_wp2
        go_roundw
        case rel => exact ⟨k + 1, by omega, by go_num, by rw [HSS.out], HOWN4.out, HB4.out⟩
        case measure => simp [intOf]; omega
    · obtain rfl : k = ts.length := by omega
      obtain ⟨c, cc, rfl, hi⟩ := rowIntsI (xs := ts.reverse) (by rw [List.length_reverse]; rw [List.take_of_length_le (by simp)] at HROW; exact HROW.out)
      rw [List.length_reverse]
      have HI := hid hi
      clear hi HROW
      have HBW := hid (show Below w.heap.size w wr from HB1.out.trans (HB.out.mono HB1.out.size))
      obtain ⟨d0, d1, d2, d3, d4, d5⟩ := lnAt_call hL1.out HB.out
      clear hsb
      go_wp2_with (go_at_call 29; refine (HP2.out _ _ _ (HX.out.below HBW.out) HI.out).mono ?_; rintro e w5 ⟨a5, c5, rfl, hi5, hb5⟩; have HI5 := hid hi5; have HB5 := hid (b_call hb5 HB.out); clear hb5 hi5)
      have hat2 : ¬ at1 < -1 := by omega
      have hat3 : ¬ (ts.length : Int) ≤ at1 := by omega
      by_cases hneg : at1 < 0
      · have hat4 : ¬ 0 ≤ at1 := by omega
        have HQ1 := hid (show ∀ W c cc, IntsAt W c xs → Calls Try.prog 48 #[.slice c xs.length cc] W (Ret W (.int .i64 K)) from fun W c cc g => (HO1.out W c cc g).mono (fun e w' h => ⟨h.1, h.2 ▸ Below.refl _ _⟩))
        have HQ2 := hid (show ∀ W, IntsAt W a ws → Calls Try.prog 48 #[.slice a ws.length ca] W (Ret W (.int .i64 K)) from fun W g => (HO2.out hneg W g).mono (fun e w' h => ⟨h.1, h.2 ▸ Below.refl _ _⟩))
        have HJ2 := hid (HJN.out hneg)
        clear HO1 HO2 HJN HP1 HP2 HLO hK d0 d1 d2 d3 d4 d5
        go_wp2_with (go_at_call 31; refine (HINT.out _ _ _ _ _ (HI1.out.below HB5.out) HI5.out).mono ?_; rintro e w6 ⟨rfl, hb6⟩; have HB6 := hid (b_call hb6 HB5.out); clear hb6)
        obtain ⟨d0, d1, d2, d3, d4, d5⟩ := lnAt_call hL1.out HB6.out
        have HX6 := hid (HX.out.below (HB1.out.trans (HB6.out.mono HB1.out.size)))
        have HA6 := hid (HI1.out.below HB6.out)
        have M5 := hid trivial
        go_region_held3 (fun w' => w'.cell? ⟨w.heap.size, 1, none⟩ = some (.int .i64 l.B))
          (first | go_keep | exact cell_later (by assumption) (by assumption) | (go_split_ands; exact cell_later (by assumption) (by assumption)))
          (first
            | (have mm := M5; go_at_call 51; refine (HPL.out _ (HX6.out.below (by (repeat (first | assumption | exact Below.refl _ _ | refine b_alloc ?_ _ | refine Below.drew ?_ | refine b_drewN ?_ _ | refine Below.setCell ?_ (by first | omega | (simp; done) | (simp; omega)) _ | refine b_call (by assumption) ?_))))).mono ?_; rintro e w7 ⟨a7, c7, rfl, hi7, hb⟩; have HI7 := hid hi7; have HB7 := hid (show Below w6.heap.size w6 w7 from b_call hb (by (repeat (first | assumption | exact Below.refl _ _ | refine b_alloc ?_ _ | refine Below.drew ?_ | refine b_drewN ?_ _ | refine Below.setCell ?_ (by first | omega | (simp; done) | (simp; omega)) _ | refine b_call (by assumption) ?_)))); clear mm M5 hi7; have M7 := hid trivial)
            | (have mm := M7; go_at_call 50; refine (HLT.out _ _ _ (HI7.out.below (by (repeat (first | assumption | exact Below.refl _ _ | refine b_alloc ?_ _ | refine Below.drew ?_ | refine b_drewN ?_ _ | refine Below.setCell ?_ (by first | omega | (simp; done) | (simp; omega)) _ | refine b_call (by assumption) ?_))))).mono ?_; rintro e w8 ⟨a8, c8, rfl, hi8, hb⟩; have HI8 := hid hi8; have HB8 := hid (show Below w6.heap.size w6 w8 from b_call hb (by have hq := HB7.out; (repeat (first | assumption | exact Below.refl _ _ | refine b_alloc ?_ _ | refine Below.drew ?_ | refine b_drewN ?_ _ | refine Below.setCell ?_ (by first | omega | (simp; done) | (simp; omega)) _ | refine b_call (by assumption) ?_)))); clear mm M7 hi8; have M8 := hid trivial)
            | (have mm := M8; go_at_call 49; refine (HJ2.out _ _ _ (HI8.out.below (by (repeat (first | assumption | exact Below.refl _ _ | refine b_alloc ?_ _ | refine Below.drew ?_ | refine b_drewN ?_ _ | refine Below.setCell ?_ (by first | omega | (simp; done) | (simp; omega)) _ | refine b_call (by assumption) ?_))))).mono ?_; rintro e w9 ⟨a9, c9, rfl, hi9, hb⟩; have HI9 := hid hi9; have HB9 := hid (show Below w6.heap.size w6 w9 from b_call hb (by have hq := HB8.out; (repeat (first | assumption | exact Below.refl _ _ | refine b_alloc ?_ _ | refine Below.drew ?_ | refine b_drewN ?_ _ | refine Below.setCell ?_ (by first | omega | (simp; done) | (simp; omega)) _ | refine b_call (by assumption) ?_)))); clear mm M8 hi9; have M9 := hid trivial)
            | (have mm := M9; go_at_call 31; refine (HINT.out _ _ _ _ _ (HA6.out.below (by have hq := HB9.out; (repeat (first | assumption | exact Below.refl _ _ | refine b_alloc ?_ _ | refine Below.drew ?_ | refine b_drewN ?_ _ | refine Below.setCell ?_ (by first | omega | (simp; done) | (simp; omega)) _ | refine b_call (by assumption) ?_)))) (HI9.out.below (by (repeat (first | assumption | exact Below.refl _ _ | refine b_alloc ?_ _ | refine Below.drew ?_ | refine b_drewN ?_ _ | refine Below.setCell ?_ (by first | omega | (simp; done) | (simp; omega)) _ | refine b_call (by assumption) ?_))))).mono ?_; rintro e w10 ⟨rfl, hb⟩; have HB10 := hid (show Below w6.heap.size w6 w10 from b_call hb (by have hq := HB9.out; (repeat (first | assumption | exact Below.refl _ _ | refine b_alloc ?_ _ | refine Below.drew ?_ | refine b_drewN ?_ _ | refine Below.setCell ?_ (by first | omega | (simp; done) | (simp; omega)) _ | refine b_call (by assumption) ?_)))); clear mm M9; have M10 := hid trivial)
            | (have mm := M10; go_at_call 48; refine (HQ1.out _ _ _ (HA6.out.below (by have hq := HB10.out; (repeat (first | assumption | exact Below.refl _ _ | refine b_alloc ?_ _ | refine Below.drew ?_ | refine b_drewN ?_ _ | refine Below.setCell ?_ (by first | omega | (simp; done) | (simp; omega)) _ | refine b_call (by assumption) ?_))))).mono ?_; rintro e w11 ⟨rfl, hb⟩; have HB11 := hid (show Below w6.heap.size w6 w11 from b_call hb (by have hq := HB10.out; (repeat (first | assumption | exact Below.refl _ _ | refine b_alloc ?_ _ | refine Below.drew ?_ | refine b_drewN ?_ _ | refine Below.setCell ?_ (by first | omega | (simp; done) | (simp; omega)) _ | refine b_call (by assumption) ?_)))); clear mm M10; have M11 := hid trivial)
            | (have mm := M11; go_at_call 48; refine (HQ2.out _ (HX6.out.below (by have hq := HB11.out; (repeat (first | assumption | exact Below.refl _ _ | refine b_alloc ?_ _ | refine Below.drew ?_ | refine b_drewN ?_ _ | refine Below.setCell ?_ (by first | omega | (simp; done) | (simp; omega)) _ | refine b_call (by assumption) ?_))))).mono ?_; rintro e w12 ⟨rfl, hb⟩; have HB12 := hid (show Below w6.heap.size w6 w12 from b_call hb (by have hq := HB11.out; (repeat (first | assumption | exact Below.refl _ _ | refine b_alloc ?_ _ | refine Below.drew ?_ | refine b_drewN ?_ _ | refine Below.setCell ?_ (by first | omega | (simp; done) | (simp; omega)) _ | refine b_call (by assumption) ?_)))); clear mm M11; have M12 := hid trivial)
            | (have mm := M12; go_at_call 22; refine (HA.out _).mono ?_; rintro e w13 ⟨rfl, hb⟩; have HB13 := hid (show Below w6.heap.size w6 w13 from b_call hb (by have hq := HB12.out; (repeat (first | assumption | exact Below.refl _ _ | refine b_alloc ?_ _ | refine Below.drew ?_ | refine b_drewN ?_ _ | refine Below.setCell ?_ (by first | omega | (simp; done) | (simp; omega)) _ | refine b_call (by assumption) ?_)))); clear mm M12; have M13 := hid trivial))
        all_goals
          go_wp2
          go_ret
          exact ⟨rfl, (HB1.out.trans (HB6.out.mono HB1.out.size)).trans (HB13.out.mono (HB1.out.trans (HB6.out.mono HB1.out.size)).size)⟩
      · have hat4 : 0 ≤ at1 := by omega
        have hk0 := hK hat4
        subst hk0
        go_wp2_with (first
          | (go_at_call 31; refine (HINT.out _ _ _ _ _ (HI1.out.below HB5.out) HI5.out).mono ?_; rintro e w6 ⟨rfl, hb6⟩; have HB6 := hid (b_call hb6 HB5.out); clear hb6)
          | (go_at_call 48; refine (HO1.out _ _ _ (HI1.out.below HB6.out)).mono ?_; rintro e w7 ⟨rfl, rfl⟩)
          | (go_at_call 22; refine (HA.out _).mono ?_; rintro e w8 ⟨rfl, hb8⟩; have HB8 := hid (b_call hb8 HB6.out); clear hb8))
        go_ret
        exact ⟨rfl, HB1.out.trans (HB8.out.mono HB1.out.size)⟩
end Go.Proofs.Ytlocdkjnefmiaaa
