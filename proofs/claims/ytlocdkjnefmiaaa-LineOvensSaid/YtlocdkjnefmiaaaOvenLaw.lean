/-
  The law LineOven, walked: given that Awake answers true.
-/
import Derived.Deep.RegionWith
import Derived.Deep.RegionHeld3
import Derived.Deep.LoopGhost
import Derived.Deep.DeepCutAuto
import Derived.Test.YtlocdkjnefmiaaaOpenHeated
import Derived.Test.YtlocdkjnefmiaaaGKeeps
import Derived.Test.YtlocdkjnefmiaaaGBack
import Derived.Test.YtlocdkjnefmiaaaFile
import Derived.Test.YtlocdkjnefmiaaaLongerLaw
namespace Go.Proofs.Ytlocdkjnefmiaaa
open Go.RowKit
set_option linter.unusedVariables false
set_option linter.unusedSimpArgs false

/-- A number of a span, so many 255ths on. -/
def amongOf (lo hi n : Int) : Int := lo + (hi - lo) * n / 255
theorem among_bd {lo hi n : Int} (h : lo ≤ hi) (hn : 0 ≤ n ∧ n ≤ 255) : lo ≤ amongOf lo hi n ∧ amongOf lo hi n ≤ hi := by
  unfold amongOf
  have h1 := mul_le_mul_bd (show 0 ≤ hi - lo by omega) (Int.le_refl _) hn.1 hn.2
  omega
set_option maxHeartbeats 400000 in
theorem among_any (lo hi n : Int) (hlo : -1000000 ≤ lo) (hhi : hi ≤ 1000000) (h : lo ≤ hi) (hn : 0 ≤ n ∧ n ≤ 255) (w : World) :
    Calls Try.prog 52 #[.agg #[.int .i64 lo, .int .i64 hi], .int .u8 n] w (Ret w (.int .i64 (amongOf lo hi n))) := by
  have h1 := mul_le_mul_bd (show 0 ≤ hi - lo by omega) (show hi - lo ≤ 2000000 by omega) hn.1 hn.2
  have w1 : IntKind.i64.wrap (hi - lo) = hi - lo := IntWalk.i64_in _ (by omega)
  have w2 : IntKind.i64.wrap ((hi - lo) * n) = (hi - lo) * n := IntWalk.i64_in _ (by omega)
  have w3 : ((hi - lo) * n).tdiv 255 = (hi - lo) * n / 255 := Int.tdiv_eq_ediv_of_nonneg h1.1
  have w4 : IntKind.i64.wrap ((hi - lo) * n / 255) = (hi - lo) * n / 255 := IntWalk.i64_in _ (by omega)
  have w5 : IntKind.i64.wrap (lo + (hi - lo) * n / 255) = lo + (hi - lo) * n / 255 := IntWalk.i64_in _ (by omega)
  go_enter Try.func52, Try.ntmps52
  go_wp2
  go_ret
  exact ⟨rfl, by (repeat (first | assumption | exact Below.refl _ _ | refine b_alloc ?_ _ | refine Below.drew ?_ | refine b_drewN ?_ _ | refine Below.setCell ?_ (by first | omega | (simp; done) | (simp; omega)) _ | refine b_call (by assumption) ?_))⟩

/-- What can be after some minutes is not far. -/
theorem canbe_bd {o : Ov} (ho : o.Ok) {s : Int × Int} (h1 : -500 ≤ s.1) (h2 : s.2 ≤ 1000) {h : Bool} {j : Nat} {c : Cl} (hc : CanBe o s h j c) : -600 ≤ c.1 ∧ c.1 ≤ 1100 := by
  induction hc with
  | start a b => exact ⟨by simp only; omega, by simp only; omega⟩
  | step _ b ih => exact steps_bd ho ih _ b
theorem step_of {o : Ov} {t : Int} {b : Bool} {t' : Int} (h : if heatsAt o (t, b) then t + o.warm.1 ≤ t' ∧ t' ≤ t + o.warm.2 else t - o.cool.2 ≤ t' ∧ t' ≤ t - o.cool.1) : (t', heatsAt o (t, b)) ∈ stepsOf o (t, b) := by
  refine mem_steps.2 ?_
  unfold lowAt highAt
  split at h
  · rename_i g; rw [g]; simp only [if_true]; exact ⟨h.1, h.2, trivial⟩
  · rename_i g
    have g : heatsAt o (t, b) = false := by simpa using g
    rw [g]; simp only [Bool.false_eq_true, if_false]; exact ⟨h.1, h.2, trivial⟩

set_option maxRecDepth 100000 in
set_option maxHeartbeats 8000000 in
theorem oven_walk (hA : ∀ W, Calls Try.prog 22 #[] W (Ret W (.bool true))) (l : Ln) (o : Ov) (s : Int × Int) (hh : Bool) (M : Nat) (bb off n cap : Nat) (xs : List Int) (hn : xs.length = n) (hn1 : 1 ≤ n) (hn2 : n ≤ 140737488355328) (hxs : ∀ i, i < n → 0 ≤ xs[i]?.getD 0 ∧ xs[i]?.getD 0 ≤ 255)
    (ho : o.Ok) (hs : -500 ≤ s.1 ∧ s.2 ≤ 1000) (hs2 : s.1 ≤ s.2) (hm : M ≤ 200)
    (lo1 hi1 kp f1 sLo sHi er : Int) (hf1 : f1 = 0 ∨ f1 = 7) (hkp : -1 ≤ kp ∧ kp ≤ M)
    (hends : ∀ (j : Nat) (c : Cl), (j : Int) ≤ M → CanBe o s hh j c → lo1 ≤ c.1 ∧ c.1 ≤ hi1)
    (hgood : f1 = 0 → ∀ (j : Nat) (c : Cl), (j : Int) ≤ M → CanBe o s hh j c → (kp < 0 ∨ (j : Int) < kp) → er = 0 ∧ sLo ≤ c.1 ∧ c.1 ≤ sHi)
    (hO1 : ∀ W, Calls Try.prog 36 #[o.val, spanV s, .bool hh, .int .i64 (M : Int)] W (Ret W (.tuple #[.agg #[.int .i64 lo1, .int .i64 hi1], .int .i64 0])))
    (hK1 : ∀ W, Calls Try.prog 38 #[l.val, o.val, spanV s, .bool hh, .int .i64 (M : Int)] W (Ret W (.tuple #[.int .i64 kp, .int .i64 f1])))
    (hS1 : ∀ W, Calls Try.prog 27 #[l.val] W (Ret W (.tuple #[.agg #[.int .i64 sLo, .int .i64 sHi], .int .i64 er]))) (w : World) (hx : ∀ j, j < n → w.cell? ⟨bb, off + j, none⟩ = some (.int .u8 (xs[j]?.getD 0))) :
    Calls Try.prog 17 #[l.val, heatV o s hh M, .slice (some ⟨bb, off, none⟩) n cap] w fun e w' => e = .returned (.bool true) ∧ Below w.heap.size w w' := by
  have HA := hid hA
  have HO1 := hid hO1
  have HK1 := hid hK1
  have HS1 := hid hS1
  have HE := hid hends
  have HG := hid hgood
  have HX := hid hx
  have HXS := hid hxs
  have HF := hid hf1
  have hL0 := hid (lnAt_call (lnAt_new' l w) (b_alloc (Below.refl _ _) (heatO o s hh M)))
  have hx0 := HeatAt.new (w.alloc (.cells #[.int .i64 l.W, .int .i64 l.B, .int .i64 l.P, .int .i64 l.D, .int .i64 l.S, .int .i64 l.N] 25)) o s hh M
  simp only [World.size_alloc] at hx0
  have hX0 := hid hx0
  clear hA hO1 hK1 hS1 hends hgood hx hxs hf1 hx0 hn
  go_enter Try.func17, Try.ntmps17
  go_wp2_with (first
    | (go_at_call 36; refine (HO1.out _).mono ?_; rintro e w1 ⟨rfl, hb1⟩; have HB1 := hid (show Below w.heap.size w w1 by (repeat (first | assumption | exact Below.refl _ _ | refine b_alloc ?_ _ | refine Below.drew ?_ | refine b_drewN ?_ _ | refine Below.setCell ?_ (by first | omega | (simp; done) | (simp; omega)) _ | refine b_call (by assumption) ?_))); have hb := b_alloc hb1 (spanO lo1 hi1); have hL1 := hid (lnAt_call hL0.out hb); have hX1 := hid (hX0.out.call hb); have HC0 := hid ((Cel.new w1 #[.int .i64 lo1, .int .i64 hi1] 31 0 _ rfl)); have HC1 := hid ((Cel.new w1 #[.int .i64 lo1, .int .i64 hi1] 31 1 _ rfl)); clear hb hb1; obtain ⟨d0, d1, d2, d3, d4, d5⟩ := hL1.out; have p0 := hX1.out.c0.1; have p1 := hX1.out.c1.1; have p2 := hX1.out.c2.1; have p3 := hX1.out.c3.1; have p4 := hX1.out.c4.1; have p5 := hX1.out.c5.1; have p6 := hX1.out.c6.1; have p7 := hX1.out.c7.1; have p8 := hX1.out.c8.1; have p9 := hX1.out.c9.1)
    | (go_at_call 38; refine (HK1.out _).mono ?_; rintro e w2 ⟨rfl, hb2⟩; have hL2 := hid (lnAt_call hL1.out hb2); have hX2 := hid (hX1.out.call hb2); have HD0 := hid (HC0.out.call hb2); have HD1 := hid (HC1.out.call hb2); have HB2 := hid (show Below w.heap.size w w2 from b_call hb2 (by have hq := HB1.out; (repeat (first | assumption | exact Below.refl _ _ | refine b_alloc ?_ _ | refine Below.drew ?_ | refine b_drewN ?_ _ | refine Below.setCell ?_ (by first | omega | (simp; done) | (simp; omega)) _ | refine b_call (by assumption) ?_)))); clear hb2; clear d0 d1 d2 d3 d4 d5; clear p0 p1 p2 p3 p4 p5 p6 p7 p8 p9; obtain ⟨d0, d1, d2, d3, d4, d5⟩ := hL2.out)
    | (go_at_call 27; refine (HS1.out _).mono ?_; rintro e w3 ⟨rfl, hb3⟩; have hb := b_alloc hb3 (spanO sLo sHi); have hX3 := hid (hX2.out.call hb); have HE0 := hid (HD0.out.call hb); have HE1 := hid (HD1.out.call hb); have HS0 := hid ((Cel.new w3 #[.int .i64 sLo, .int .i64 sHi] 31 0 _ rfl)); have HS1' := hid ((Cel.new w3 #[.int .i64 sLo, .int .i64 sHi] 31 1 _ rfl)); have HB3 := hid (show Below w.heap.size w w3 from b_call hb3 (by have hq := HB2.out; (repeat (first | assumption | exact Below.refl _ _ | refine b_alloc ?_ _ | refine Below.drew ?_ | refine b_drewN ?_ _ | refine Below.setCell ?_ (by first | omega | (simp; done) | (simp; omega)) _ | refine b_call (by assumption) ?_)))); clear hb3; clear d0 d1 d2 d3 d4 d5; clear hb))
  have p6 := hX3.out.c6.1
  have p7 := hX3.out.c7.1
  have p8 := hX3.out.c8.1
  have pb := cell_later (b_alloc (Below.refl w3.heap.size w3) (spanO sLo sHi)) (cell_later HB3.out (HX.out 0 (by omega)))
  rw [Nat.add_zero] at pb
  obtain ⟨x0, hx0⟩ : ∃ x0, xs[0]?.getD 0 = x0 := ⟨_, rfl⟩
  have hx0b := HXS.out 0 (by omega)
  rw [hx0] at pb hx0b
  clear hx0
  have n0 : (0 : Int) < (n : Int) := by omega
  have n0' : 0 < n := by omega
  go_region_held3 (fun w' => w'.cell? ⟨w.heap.size + 1, 6, none⟩ = some (.int .i64 s.1) ∧ w'.cell? ⟨w.heap.size + 1, 7, none⟩ = some (.int .i64 s.2) ∧ w'.cell? ⟨w.heap.size + 1, 8, none⟩ = some (.bool hh) ∧ w'.cell? ⟨bb, off, none⟩ = some (.int .u8 x0))
    (first | go_keep | (go_split_ands; refine ⟨?_, ?_, ?_, ?_⟩ <;> exact cell_later (by assumption) (by assumption)))
    (first | (go_at_call 52; refine (among_any _ _ _ (by omega) (by omega) hs2 hx0b _).mono ?_; rintro e w4 ⟨rfl, hb4⟩))
  have hb34 := (show Below w3.heap.size w3 w4 from b_call hb4 ((b_alloc (Below.refl _ _) (spanO sLo sHi)).drew))
  have hb44 := (show Below (w3.alloc (spanO sLo sHi)).heap.size (w3.alloc (spanO sLo sHi)) w4 from b_call hb4 ((Below.refl _ _).drew))
  have hX4 := hid (hX3.out.call hb44)
  have HF0 := hid (HE0.out.call hb44)
  have HF1 := hid (HE1.out.call hb44)
  have HS4 := hid (HS0.out.call hb44)
  have HS5 := hid (HS1'.out.call hb44)
  have HB4 := hid (b_call hb34 HB3.out)
  have hxb := among_bd hs2 hx0b
  have hst := hid (show CanBe o s hh 0 (amongOf s.1 s.2 x0, hh) from .start hxb.1 hxb.2)
  generalize amongOf s.1 s.2 x0 = t0 at *
  clear hb4 hb34 hb44 p6 p7 p8 pb hx0b hxb hX0 hX1 hX2 hX3 HC0 HC1 HD0 HD1 HE0 HE1 HS0 HS1' HB1 HB2 HB3 hL0 hL1 hL2 HO1 HK1 HS1
  go_wp2
  go_loopg [13, 14, 15, 16] (M + 1) (fun gk tv bv kv _ wr => ∃ (k : Nat) (t : Int) (b : Bool), k ≤ M + 1 ∧ gk = M + 1 - k ∧ kv = .int .i64 (k : Int) ∧ tv = .int .i64 t ∧ bv = .bool b ∧ CanBe o s hh k (t, b) ∧ HeatAt wr (w.heap.size + 1) o s hh M ∧ Cel wr w1.heap.size 0 (.int .i64 lo1) ∧ Cel wr w1.heap.size 1 (.int .i64 hi1) ∧
      Cel wr w3.heap.size 0 (.int .i64 sLo) ∧ Cel wr w3.heap.size 1 (.int .i64 sHi) ∧ Below w.heap.size w wr)
  case atStart => exact ⟨0, t0, hh, by omega, by omega, rfl, rfl, rfl, hst.out, hX4.out, HF0.out, HF1.out, HS4.out, HS5.out, HB4.out⟩
  case round =>
    obtain ⟨k, t, b, hk, hgk, rfl, rfl, rfl, hc, gX, gF0, gF1, gS0, gS1, gB⟩ := hrel
    have hC := hid hc
    have GX := hid gX
    have GF0 := hid gF0
    have GF1 := hid gF1
    have GS0 := hid gS0
    have GS1 := hid gS1
    have GB := hid gB
    have HGK := hid hgk
    have p9 := gX.c9.1
    clear hc gX gF0 gF1 gS0 gS1 gB hX4 HF0 HF1 HS4 HS5 HB4 hst hgk
    by_cases hle : k ≤ M
    · have hle' : (k : Int) ≤ (M : Int) := by omega
      obtain ⟨e1, e2⟩ := HE.out k (t, b) hle' hC.out
      simp only at e1 e2
      have ebd := canbe_bd ho hs.1 hs.2 hC.out
      simp only at ebd
      have q0 := GF0.out.1
      have q1 := GF1.out.1
      go_upto_region 14 with fail
      go_cut [113] (fun c wx => c = .bool false ∧ wr = wx)
      case first =>
        have u0 := GS0.out.1
        have u1 := GS1.out.1
        have hcs : f1 = 7 ∨ (f1 = 0 ∧ er = 0 ∧ sLo ≤ t ∧ t ≤ sHi ∧ (kp < 0 ∨ (0 ≤ kp ∧ (k : Int) < kp))) ∨ (f1 = 0 ∧ 0 ≤ kp ∧ kp ≤ (k : Int)) := by
          rcases HF.out with h | h
          · by_cases h2 : kp < 0 ∨ (k : Int) < kp
            · have := HG.out h k (t, b) hle' hC.out h2
              simp only at this
              omega
            · omega
          · exact .inl h
        clear q0 q1 p9
        rcases hcs with rfl | ⟨rfl, rfl, g1, g2, g3 | ⟨g3, g4⟩⟩ | ⟨rfl, g1, g2⟩
        all_goals
          go_wp2
          go_meet
          exact ⟨by first | rfl | (simp; omega), rfl⟩
      case rest =>
        obtain ⟨rfl, rfl⟩ := hcut
        have p0 := GX.out.c0.1
        have p1 := GX.out.c1.1
        go_upto_region 16 with fail
        go_cut [14] (fun c wx => c = .bool (heatsAt o (t, b)) ∧ wr = wx)
        case first =>
          have hcs : t < o.lo ∨ (o.lo ≤ t ∧ t ≤ o.hi) ∨ (o.lo ≤ t ∧ o.hi < t) := by omega
          rcases hcs with h1 | ⟨h1, h2⟩ | ⟨h1, h2⟩
          all_goals
            go_wp2
            go_meet
            exact ⟨by unfold heatsAt; simp [h1] <;> first | omega | (simp [h2]; done) | (cases b <;> simp <;> omega), rfl⟩
        case rest =>
          obtain ⟨rfl, rfl⟩ := hcut
          have p2 := GX.out.c2.1
          have p3 := GX.out.c3.1
          have p4 := GX.out.c4.1
          have p5 := GX.out.c5.1
          obtain ⟨i, hi⟩ : ∃ i, (k + 1) % n = i := ⟨_, rfl⟩
          have hin : i < n := by rw [← hi]; exact Nat.mod_lt _ (by omega)
          have hti : ((k : Int) + 1).tmod (n : Int) = (i : Int) := by rw [Int.tmod_eq_emod_of_nonneg (by omega), ← hi]; simp
          have hcx := cell_later GB.out (HX.out i hin)
          obtain ⟨x, hxx⟩ : ∃ x, xs[i]?.getD 0 = x := ⟨_, rfl⟩
          have hxb := HXS.out i hin
          rw [hxx] at hcx hxb
          have hni : ¬ (n : Int) = 0 := by omega
          have hi0 : (0 : Int) ≤ (i : Int) := by omega
          have hi1' : (i : Int) < (n : Int) := by omega
          have hwi : IntKind.i64.wrap (i : Int) = (i : Int) := IntWalk.i64_in _ (by omega)
          have hst' := hid (fun t' g => CanBe.step (o := o) (s := s) (h := hh) hC.out (@step_of o t b t' g))
          obtain ⟨⟨_, _, ⟨w11, w12⟩, w21, w22⟩, _, w3', w4'⟩ := id ho
          clear hxx hi q0 q1 p0 p1
          have HIN := hid hin
          clear hin
          cases hb : heatsAt o (t, b) with
          | true =>
            rw [hb] at hst'
            have HST := hid (show ∀ t', t + o.warm.1 ≤ t' → t' ≤ t + o.warm.2 → CanBe o s hh (k + 1) (t', true) from fun t' g1 g2 => hst'.out t' (by simp only [if_true]; exact ⟨g1, g2⟩))
            clear hst' hb
            have abd := among_bd w3' hxb
            go_wp2_with (go_at_call 52; refine (among_any _ _ _ (by omega) (by omega) w3' hxb _).mono ?_; rintro e w5 ⟨rfl, hb5⟩)
            go_roundg (M + 1 - (k + 1))
            case rel =>
              refine ⟨k + 1, t + amongOf o.warm.1 o.warm.2 x, true, by omega, rfl, by go_num, rfl, rfl, HST.out _ (by omega) (by omega), GX.out.call hb5, GF0.out.call hb5, GF1.out.call hb5, GS0.out.call hb5, GS1.out.call hb5, b_call hb5 GB.out⟩
            case measure => have := HGK.out; omega
          | false =>
            rw [hb] at hst'
            have HST := hid (show ∀ t', t - o.cool.2 ≤ t' → t' ≤ t - o.cool.1 → CanBe o s hh (k + 1) (t', false) from fun t' g1 g2 => hst'.out t' (by simp only [Bool.false_eq_true, if_false]; exact ⟨g1, g2⟩))
            clear hst' hb
            have abd := among_bd w4' hxb
            go_wp2_with (go_at_call 52; refine (among_any _ _ _ (by omega) (by omega) w4' hxb _).mono ?_; rintro e w5 ⟨rfl, hb5⟩)
            go_roundg (M + 1 - (k + 1))
            case rel =>
              refine ⟨k + 1, t - amongOf o.cool.1 o.cool.2 x, false, by omega, rfl, by go_num, rfl, rfl, HST.out _ (by omega) (by omega), GX.out.call hb5, GF0.out.call hb5, GF1.out.call hb5, GS0.out.call hb5, GS1.out.call hb5, b_call hb5 GB.out⟩
            case measure => have := HGK.out; omega
    · have hke : k = M + 1 := by omega
      subst hke
      go_wp2_with (go_at_call 22; refine (HA.out _).mono ?_; rintro e w8 ⟨rfl, hb8⟩; have HB8 := hid (b_call hb8 GB.out); clear hb8)
      go_ret
      exact ⟨rfl, HB8.out⟩
end Go.Proofs.Ytlocdkjnefmiaaa
