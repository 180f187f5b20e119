/-
  What Next returns is above the beat, by at most the beats of the line, and of this word; the word behind it begins as many beats later as it has bits (the law LineBeats answers true for every line, word and beat, and leaves its arguments as they were). No condition.
-/
import Derived.Test.YtggkhddficmnfaaAwakeMain
import Derived.Test.YtggkhddficmnfaaFactsA
import Derived.Test.YtggkhddficmnfaaFactsB
import Derived.Test.YtggkhddficmnfaaFactsC
import Derived.Test.YtggkhddficmnfaaOpenLn
import Derived.ShutString
namespace Go.Proofs.Ytggkhddficmnfaa.LineBeatsProof
open Go.Proofs.Ytggkhddficmnfaa
open Go.ChangeShapes Go.WideShapes Go.ChangeAt Go.RowKit
set_option linter.unusedVariables false
set_option linter.unusedSimpArgs false

theorem own : ownKnob Try.prog.godebug = none := by kernel_rfl

theorem next_shift (M c : Int) (hM : 1 ≤ M) (h0 : 0 ≤ c) (h1 : c < M) (x d : Int) (h : x % M = c) (hd0 : 1 ≤ d) (hd : d ≤ M) (c' : Int) (hc : (c + d) % M = c' % M) : x + 1 + (c' - (x + 1)) % M = x + d := by
  have e : (c' - (x + 1)) % M = d - 1 := by
    rw [Int.sub_emod, ← hc, ← Int.sub_emod]
    have hx : x = M * (x / M) + c := by have := Int.emod_add_mul_ediv x M; omega
    have h2 : c + d - (x + 1) = (d - 1) + M * (-(x / M)) := by rw [Int.mul_neg]; omega
    rw [h2, Int.add_mul_emod_self_left]
    exact Int.emod_eq_of_lt (by omega) (by omega)
  omega

set_option maxRecDepth 100000 in
set_option maxHeartbeats 2000000 in
theorem walk_ok (l : Ln) (word beat n w2 : Int) (hM : 1 ≤ l.W * l.B ∧ l.W * l.B ≤ 2560) (hW : 1 ≤ l.W ∧ l.W ≤ 64) (hB : 1 ≤ l.B ∧ l.B ≤ 40) (hw : 0 ≤ word ∧ word ≤ l.W - 1) (hwb : 0 ≤ word * l.B ∧ word * l.B ≤ 2560) (hb : 0 ≤ beat ∧ beat ≤ 1000000000)
    (h1 : beat < n) (h2 : n - beat ≤ l.W * l.B) (h3 : n.tmod (l.W * l.B) = word * l.B) (hw2 : (word + 1).tmod l.W = w2) (hw2b : 0 ≤ w2 ∧ w2 < 64)
    (H1 : ∀ W, Calls Try.prog 34 #[l.val, .int .i64 word, .int .i64 beat] W (Ret W (val2 n 0)))
    (H2 : n ≤ 1000000000 → (∀ W, Calls Try.prog 34 #[l.val, .int .i64 w2, .int .i64 n] W (Ret W (val2 (n + l.B) 0))) ∧ ∀ W, Calls Try.prog 34 #[l.val, .int .i64 word, .int .i64 n] W (Ret W (val2 (n + l.W * l.B) 0))) (w : World) :
    Calls Try.prog 16 #[l.val, .int .i64 word, .int .i64 beat] w fun e w' => e = .returned (.bool true) ∧ Below w.heap.size w w' := by
  have hL0 := hid (lnAt_new' l w)
  have HH1 := hid H1
  have t1 : decide (n ≤ beat) = false := by simp; omega
  have t2 : decide (l.W * l.B < n - beat) = false := by simp; omega
  have t5 : (n.tmod (l.W * l.B) != word * l.B) = false := by simp [h3]
  have w1 : IntKind.i64.wrap (n - beat) = n - beat := IntWalk.i64_in _ (by omega)
  have w2' : IntKind.i64.wrap (l.W * l.B) = l.W * l.B := IntWalk.i64_in _ (by omega)
  have w3 : IntKind.i64.wrap (word * l.B) = word * l.B := IntWalk.i64_in _ (by omega)
  have t3 : l.W * l.B ≠ 0 := by omega
  have t4 : l.W ≠ 0 := by omega
  by_cases hn : n ≤ 1000000000
  · obtain ⟨H2, H3⟩ := H2 hn
    have HH2 := hid H2
    have HH3 := hid H3
    clear H1 H2 H3
    go_enter Try.func16, Try.ntmps16
    go_wp2_with (go_at_call 34; refine (HH1.out _).mono ?_; clear HH1; rintro e w1 ⟨rfl, hb1⟩; have HB1 := hid (show Below w.heap.size w w1 by (repeat (first | assumption | exact Below.refl _ _ | refine b_alloc ?_ _ | refine Below.drew ?_ | refine b_drewN ?_ _ | refine Below.setCell ?_ (by first | omega | (simp; done) | (simp; omega)) _ | refine b_call (by assumption) ?_))); have hL1 := hid (lnAt_call hL0.out hb1); obtain ⟨d0, d1, d2, d3, d4, d5⟩ := hL1.out; clear hb1)
    go_quiet (fail)
    have w4 : IntKind.i64.wrap (word + 1) = word + 1 := IntWalk.i64_in _ (by omega)
    have w5 : IntKind.i64.wrap w2 = w2 := IntWalk.i64_in _ (by omega)
    have w6 : IntKind.i64.wrap (n + l.B - n) = l.B := by rw [show n + l.B - n = l.B by omega]; exact IntWalk.i64_in _ (by omega)
    have w7 : IntKind.i64.wrap (n + l.W * l.B - n) = l.W * l.B := by rw [show n + l.W * l.B - n = l.W * l.B by omega]; exact w2'
    go_wp2
    go_region_with (first
      | (go_at_call 34; refine (HH2.out _).mono ?_; clear HH2; rintro e w3 ⟨rfl, hb3⟩; have HB3 := hid (show Below w.heap.size w w3 from b_call hb3 (by repeat (first | exact HB1.out | refine Below.drew ?_ | refine b_drewN ?_ _))); have hL3 := hid (lnAt_call hL1.out (show Below w1.heap.size w1 w3 from b_call hb3 (by repeat (first | exact Below.refl _ _ | refine Below.drew ?_ | refine b_drewN ?_ _)))); clear d0 d1 d2 d3 d4 d5 hb3; obtain ⟨d0, d1, d2, d3, d4, d5⟩ := hL3.out))
    all_goals
      go_wp2_with (first
        | (go_at_call 34; refine (HH3.out _).mono ?_; clear HH3; rintro e w5 ⟨rfl, hb5⟩; have HB5 := hid (b_call hb5 HB3.out); have hL5 := hid (lnAt_call hL3.out hb5); clear d0 d1 d2 d3 d4 d5 hb5; obtain ⟨d0, d1, d2, d3, d4, d5⟩ := hL5.out)
        | (go_at_call 22; refine (Awake_any _).mono ?_; rintro e w7 ⟨rfl, hb7⟩; have HB7 := hid (b_call hb7 HB5.out); clear hb7))
      go_ret
      exact ⟨rfl, HB7.out⟩
  · clear H2 H1
    go_enter Try.func16, Try.ntmps16
    go_wp2_with (go_at_call 34; refine (HH1.out _).mono ?_; clear HH1; rintro e w1 ⟨rfl, hb1⟩; have HB1 := hid (show Below w.heap.size w w1 by (repeat (first | assumption | exact Below.refl _ _ | refine b_alloc ?_ _ | refine Below.drew ?_ | refine b_drewN ?_ _ | refine Below.setCell ?_ (by first | omega | (simp; done) | (simp; omega)) _ | refine b_call (by assumption) ?_))); have hL1 := hid (lnAt_call hL0.out hb1); obtain ⟨d0, d1, d2, d3, d4, d5⟩ := hL1.out; clear hb1)
    go_quiet (fail)
    go_wp2_with (go_at_call 22; refine (Awake_any _).mono ?_; rintro e w3 ⟨rfl, hb3⟩; have HB3 := hid (show Below w.heap.size w w3 from b_call hb3 (by first | exact HB1.out | exact HB1.out.drew | exact b_drewN HB1.out _)); clear hb3)
    go_ret
    exact ⟨rfl, HB3.out⟩

set_option maxHeartbeats 1000000 in
theorem walk (l : Ln) (word beat : Int) (w : World) :
    Calls Try.prog 16 #[l.val, .int .i64 word, .int .i64 beat] w fun e w' => e = .returned (.bool true) ∧ Below w.heap.size w w' := by
  have H1 := fun W => Next_any l word beat W
  by_cases hk : nextOk l word beat
  · obtain ⟨h, hw, hb⟩ := id hk
    have hM := h.beats1
    have hM2 := h.beats
    obtain ⟨hW, hB, _⟩ := id h
    obtain ⟨g1, g2, g3⟩ := word_bd h hw
    have e1 : nextV l word beat = val2 (nextOf l word beat) 0 := if_pos hk
    rw [e1] at H1
    have m1 := Int.emod_nonneg (word * l.B - (beat + 1)) (show l.W * l.B ≠ 0 by omega)
    have m2 := Int.emod_lt_of_pos (word * l.B - (beat + 1)) (show 0 < l.W * l.B by omega)
    have hit : nextOf l word beat % (l.W * l.B) = word * l.B := next_hit (by omega) g1 g3
    have n1 : beat < nextOf l word beat ∧ nextOf l word beat - beat ≤ l.W * l.B := by unfold nextOf; omega
    have e2 : (word + 1).tmod l.W = (word + 1) % l.W := Int.tmod_eq_emod_of_nonneg (by omega)
    have w21 := Int.emod_nonneg (word + 1) (show l.W ≠ 0 by omega)
    have w22 := Int.emod_lt_of_pos (word + 1) (show 0 < l.W by omega)
    refine walk_ok l word beat (nextOf l word beat) ((word + 1) % l.W) (by omega) hW hB hw ⟨g1, g2⟩ hb n1.1 n1.2 (by rw [Int.tmod_eq_emod_of_nonneg (by omega)]; exact hit) e2 ⟨w21, by omega⟩ H1 (fun hn => ⟨fun W => ?_, fun W => ?_⟩) w
    · have h2 := Next_any l ((word + 1) % l.W) (nextOf l word beat) W
      have hk2 : nextOk l ((word + 1) % l.W) (nextOf l word beat) := ⟨h, ⟨w21, by omega⟩, by omega, hn⟩
      rw [show nextV l ((word + 1) % l.W) (nextOf l word beat) = val2 (nextOf l ((word + 1) % l.W) (nextOf l word beat)) 0 from if_pos hk2] at h2
      have e3 : nextOf l ((word + 1) % l.W) (nextOf l word beat) = nextOf l word beat + l.B := by
        have hBM : l.B ≤ l.W * l.B := by have := Int.mul_le_mul_of_nonneg_right hW.1 (show 0 ≤ l.B by omega); omega
        refine next_shift (l.W * l.B) (word * l.B) (by omega) g1 g3 _ l.B hit hB.1 hBM _ ?_
        by_cases hlast : word + 1 = l.W
        · rw [hlast, Int.emod_self]
          have : word * l.B + l.B = l.W * l.B := by rw [← hlast, Int.add_mul, Int.one_mul]
          rw [this]; simp
        · rw [Int.emod_eq_of_lt (by omega) (by omega : word + 1 < l.W), Int.add_mul, Int.one_mul]
      rw [e3] at h2
      exact h2
    · have h2 := Next_any l word (nextOf l word beat) W
      have hk2 : nextOk l word (nextOf l word beat) := ⟨h, hw, by omega, hn⟩
      rw [show nextV l word (nextOf l word beat) = val2 (nextOf l word (nextOf l word beat)) 0 from if_pos hk2] at h2
      have e3 : nextOf l word (nextOf l word beat) = nextOf l word beat + l.W * l.B :=
        next_shift (l.W * l.B) (word * l.B) (by omega) g1 g3 _ (l.W * l.B) hit (by omega) (Int.le_refl _) _ (by simp)
      rw [e3] at h2
      exact h2
  · have e1 : nextV l word beat = val2 0 7 := if_neg hk
    rw [e1] at H1
    have HH1 := hid H1
    clear H1 e1
    go_enter Try.func16, Try.ntmps16
    go_wp2_with (first
      | (go_at_call 34; refine (HH1.out _).mono ?_; clear HH1; rintro e w1 ⟨rfl, hb1⟩; have HB1 := hid (show Below w.heap.size w w1 by (repeat (first | assumption | exact Below.refl _ _ | refine b_alloc ?_ _ | refine Below.drew ?_ | refine b_drewN ?_ _ | refine Below.setCell ?_ (by first | omega | (simp; done) | (simp; omega)) _ | refine b_call (by assumption) ?_))); clear hb1)
      | (go_at_call 22; refine (Awake_any _).mono ?_; rintro e w3 ⟨rfl, hb3⟩; have HB3 := hid (b_call hb3 HB1.out); clear hb3))
    go_ret
    exact ⟨rfl, HB3.out⟩

set_option maxRecDepth 100000 in
theorem lifted (os : Os) (started : os.Started) (H : Type) (enc : TypeId × Value → H) :
    ReturnsInHanded {} Try.checked os 16 .any (Rows.lineBeatsSpec.pre6 enc Try.prog Try.f16 Rows.lineBeatsRow.domain false) (Rows.lineBeatsSpec.post enc Try.prog Try.f16 false true false false) := by
  refine returnsInHanded_of_change (C := Try.checked) own started (by kernel_rfl) Try.func16
    (ChangeSpec.witness6 (enc := enc) (C := Try.checked) false ⟨#[], #[.agg #[.int .i64 0, .int .i64 0, .int .i64 0, .int .i64 0, .int .i64 0, .int .i64 0], .int .i64 0, .int .i64 0], []⟩ 8 (by kernel_rfl) (by kernel_rfl) (by kernel_rfl) (by kernel_rfl)) ?_
  intro W base args ds gs before hval0 hW hcnd _
  have hval : ∀ (j : Nat) t v, Try.f16.params[j]? = some t → args[j]? = some v → Value.okWide Try.prog W .any base t v := hval0
  have hW' := hW
  obtain ⟨p, q, hA0, hV, rfl, hfz, hnd⟩ := hW
  have hA : DataW.TrodAll enc Try.prog W 0 (fun _ => true) true Try.f16.params.toList args.toList ds p := hA0
  rw [Try.params16] at hA hval
  obtain ⟨v0, vs0, d0, ds0, p0, q0, hargs, rfl, rfl, h0, r0⟩ := trodAll_cons hA
  obtain ⟨v1, vs1, d1, ds1, p1, q1, rfl, rfl, rfl, h1, r1⟩ := trodAll_cons r0
  obtain ⟨v2, vs2, d2, ds2, p2, q2, rfl, rfl, rfl, h2, r2⟩ := trodAll_cons r1
  obtain ⟨rfl, rfl, rfl⟩ := trodAll_nil r2
  obtain rfl : args = #[v0, v1, v2] := by cases args; simp_all
  obtain ⟨rfl, rfl⟩ := trodVars_none hV
  have k0 := h0
  have lt0 : ∀ x ∈ p0, x.block < W.heap.size := by obtain ⟨m, hm⟩ := k0; exact DataW.trod_lt m _ _ _ hm
  obtain ⟨l, rfl⟩ := open_ln (hval 0 25 v0 rfl rfl) h0
  obtain ⟨a1, rfl, rfl, rfl, w1⟩ := open_int Try.underlying3 (hval 1 3 v1 rfl rfl) h1
  obtain ⟨a2, rfl, rfl, rfl, w2⟩ := open_int Try.underlying3 (hval 2 3 v2 rfl rfl) h2
  clear hA0 hval0
  refine (walk l a1 a2 W).mono fun e W' ⟨he, bel⟩ => ?_
  subst he
  exact ⟨_, rfl, _, _, _, [], _, [], hW', trodAll_mk1 (shut_bool Try.underlying4 _), (trodAll_cons_mk (Below.trod laidOut (by kernel_rfl) (of_decide_eq_true (by kernel_rfl)) k0 bel lt0) (trodAll_cons_mk (shut_int Try.underlying3 w1) (trodAll_cons_mk (shut_int Try.underlying3 w2) trodAll_mk0))), rfl, bel.frame _, fun h => by cases h⟩

theorem facts : joinedFacts Try.prog 16 Try.f16 Rows.lineBeatsSpec Rows.lineBeatsRow = true := by
  unfold joinedFacts
  rw [mayEnter_ok, lifts_ok, show Try.prog.make = some Rows.lineBeatsRow.make from make_ok]
  kernel_rfl
theorem over : Rows.lineBeatsRow.holds Try.pinned (OpenSpec.ofChange Rows.lineBeatsSpec) :=
  OpenClaim.holds_of_wide 16 Try.f16 rfl rfl rfl rfl rfl rfl rfl ⟨rfl, rfl, rfl, rfl, rfl⟩ rfl rfl rfl rfl rfl (by kernel_rfl) Try.func16 facts
    (of_decide_eq_true (by kernel_rfl)) (by unfold Func.isWrapper; first | (rw [if_pos (by decide +kernel)]; kernel_rfl) | (rw [if_neg (by decide +kernel)]; exact ⟨rfl, rfl⟩))
    (fun os started H enc _ => lifted os started H enc)

theorem proved : Rows.LineBeatsSaid := over
end Go.Proofs.Ytggkhddficmnfaa.LineBeatsProof
