/-
  OrderNext: when the next order is taken.
-/
import Derived.Test.YtphbcljhfadmaaaLawA
namespace Go.Proofs.Ytphbcljhfadmaaa
open Go.RowKit
set_option linter.unusedVariables false
set_option linter.unusedSimpArgs false

theorem aft_pl {a a' : Int} (h : a % 16 = a' % 16) (c : Int) : aft c a = aft c a' := by unfold aft nb; omega
theorem fol_pl {op fr tt nx fr' tt' nx' : Int} (h1 : fr' % 16 = fr % 16) (h2 : tt' % 16 = tt % 16) (h3 : nx' % 16 = nx % 16) (t : Int) (neg : Bool) : (folOf ⟨op, fr', tt', nx'⟩ t neg).2 = (folOf ⟨op, fr, tt, nx⟩ t neg).2 := by
  have hcs : op = 6 ∨ op = 4 ∨ (op = 5 ∧ neg = true) ∨ (op = 5 ∧ neg = false) ∨ op = 7 ∨ (¬ op = 6 ∧ ¬ op = 4 ∧ ¬ op = 5 ∧ ¬ op = 7) := by
    cases neg <;> simp <;> omega
  rcases hcs with rfl | rfl | ⟨rfl, rfl⟩ | ⟨rfl, rfl⟩ | rfl | ⟨n6, n4, n5, n7⟩
  · simp only [fol6, aft_pl h2, aft_pl h3]
  · simp only [fol4, aft_pl h1, aft_pl h2, aft_pl h3]
  · simp only [fol5t, aft_pl h1, aft_pl h2]
  · simp only [fol5f, aft_pl h1, aft_pl h3]
  · simp only [fol7, aft_pl h1, aft_pl h3]
  · simp only [folx _ _ _ _ _ _ n6 n4 n5 n7, aft_pl h1, aft_pl h2, aft_pl h3]
theorem fol_two {op fr tt nx : Int} (h2 : 0 ≤ fr) (h3 : 0 ≤ tt) (h4 : 0 ≤ nx) (t : Int) (neg : Bool) (ho : op = 5 ∨ op = 6 ∨ op = 7) : t + 2 ≤ (folOf ⟨op, fr, tt, nx⟩ t neg).2 ∧ (folOf ⟨op, fr, tt, nx⟩ t neg).2 ≤ t + 32 := by
  have a1 := aft_spec t fr h2
  have a2 := aft_spec t tt h3
  have b0 := aft_spec (aft t fr) nx h4
  have b1 := aft_spec (aft t fr) tt h3
  have b2 := aft_spec (aft t tt) nx h4
  rcases ho with rfl | rfl | rfl
  · cases neg
    · rw [fol5f]; simp only; omega
    · rw [fol5t]; simp only; omega
  · rw [fol6]; simp only; omega
  · rw [fol7]; simp only; omega
theorem fol_three {op fr tt nx : Int} (h2 : 0 ≤ fr) (h3 : 0 ≤ tt) (h4 : 0 ≤ nx) (t : Int) (neg : Bool) (ho : op = 1 ∨ op = 2 ∨ op = 3) : t + 3 ≤ (folOf ⟨op, fr, tt, nx⟩ t neg).2 ∧ (folOf ⟨op, fr, tt, nx⟩ t neg).2 ≤ t + 48 := by
  have a1 := aft_spec t fr h2
  have b1 := aft_spec (aft t fr) tt h3
  have b2 := aft_spec (aft (aft t fr) tt) nx h4
  rw [folx _ _ _ _ _ _ (by omega) (by omega) (by omega) (by omega)]
  simp only; omega
theorem fol_mul {fr tt nx : Int} (h2 : 0 ≤ fr) (h3 : 0 ≤ tt) (h4 : 0 ≤ nx) (t : Int) (neg : Bool) : t + 16 ≤ (folOf ⟨4, fr, tt, nx⟩ t neg).2 ∧ (folOf ⟨4, fr, tt, nx⟩ t neg).2 ≤ t + 76 := by
  have a1 := aft_spec t fr h2
  have b1 := aft_spec (aft t fr) tt h3
  have b2 := aft_spec (aft (aft t fr) tt + 12) tt h3
  have b3 := aft_spec (aft (aft (aft t fr) tt + 12) tt) nx h4
  rw [fol4]
  simp only; omega
theorem fol_at {op fr tt nx : Int} (t : Int) (neg : Bool) : (folOf ⟨op, fr, tt, nx⟩ t neg).1 = if op = 5 ∧ neg = true then tt else nx := by
  have hcs : op = 6 ∨ op = 4 ∨ (op = 5 ∧ neg = true) ∨ (op = 5 ∧ neg = false) ∨ op = 7 ∨ (¬ op = 6 ∧ ¬ op = 4 ∧ ¬ op = 5 ∧ ¬ op = 7) := by
    cases neg <;> simp <;> omega
  rcases hcs with rfl | rfl | ⟨rfl, rfl⟩ | ⟨rfl, rfl⟩ | rfl | ⟨n6, n4, n5, n7⟩
  · rw [fol6]; simp
  · rw [fol4]; simp
  · rw [fol5t]; simp
  · rw [fol5f]; simp
  · rw [fol7]; simp
  · rw [folx _ _ _ _ _ _ n6 n4 n5 n7]; simp [n5]
theorem when_of_ok {o : Od} {t : Int} (h : whenErr o t = 0) : o.Ok ∧ Tm t ∧ o.op ≠ 0 := by
  unfold whenErr at h
  by_cases h1 : o.Ok ∧ Tm t
  · rw [if_pos h1] at h
    by_cases h2 : o.op = 0
    · rw [if_pos h2] at h; simp at h
    · exact ⟨h1.1, h1.2, h2⟩
  · rw [if_neg h1] at h; simp at h
theorem when_is {o : Od} {t : Int} (ho : o.Ok) (ht : Tm t) (h0 : o.op ≠ 0) (neg : Bool) : whenErr o t = 0 ∧ whenOf o t neg = folOf o t neg := by
  have e : whenErr o t = 0 := by unfold whenErr; rw [if_pos ⟨ho, ht⟩, if_neg h0]
  exact ⟨e, by unfold whenOf; rw [if_pos e]⟩
abbrev arr3 (a b c : Int) : Value := .agg #[.int .u8 a, .int .u8 b, .int .u8 c]
theorem blkT' (W : World) (o : Obj) (c : Array Value) (t : TypeId) : Blk ((W.alloc (.cells c t)).alloc o) W.heap.size t c := (Blk.new W c t).alloc o
theorem blkU' (W : World) (o : Obj) (c : Array Value) (t : TypeId) : Blk ((W.alloc o).alloc (.cells c t)) (W.heap.size + 1) t c := by
  have := Blk.new (W.alloc o) c t
  rwa [World.size_alloc] at this
/-- What a round of OrderNext asks of When. -/
theorem when_two {op fr tt nx t a b c : Int} (h : whenErr ⟨op, fr, tt, nx⟩ t = 0) (ha : 0 ≤ a ∧ a ≤ 255) (hb : 0 ≤ b ∧ b ≤ 255) (hc : 0 ≤ c ∧ c ≤ 255) (neg : Bool) : ∃ z1 u x1 : Int,
    (∀ W, Calls Try.prog 24 #[(Od.mk op fr tt nx).val, .int .i64 t, .bool neg] W (Ret W (val3 z1 u 0))) ∧
    (∀ W, Calls Try.prog 24 #[(Od.mk op ((fr + 16 * a) % 128) ((tt + 16 * b) % 128) ((nx + 16 * c) % 128)).val, .int .i64 t, .bool neg] W (Ret W (val3 x1 u 0))) ∧
    (z1 = if op = 5 ∧ neg = true then tt else nx) ∧ (u % 16 == z1 % 16) = true ∧ (u % 16 != z1 % 16) = false ∧ (0 ≤ z1 ∧ z1 ≤ 127) ∧ (0 ≤ u ∧ u ≤ 1000000100) ∧
    ((op = 5 ∨ op = 6 ∨ op = 7) → t + 2 ≤ u ∧ u ≤ t + 32) ∧ ((op = 1 ∨ op = 2 ∨ op = 3) → t + 3 ≤ u ∧ u ≤ t + 48) ∧ (op = 4 → t + 16 ≤ u ∧ u ≤ t + 76) := by
  obtain ⟨ho, ht, h0⟩ := when_of_ok h
  obtain ⟨h1, h2, h3, h4⟩ := id ho
  simp only at h1 h2 h3 h4 h0
  obtain ⟨e1, e2⟩ := when_is ho ht h0 neg
  have hop : (Od.mk op ((fr + 16 * a) % 128) ((tt + 16 * b) % 128) ((nx + 16 * c) % 128)).Ok := by unfold Od.Ok; simp only; omega
  obtain ⟨f1, f2⟩ := when_is (o := Od.mk op ((fr + 16 * a) % 128) ((tt + 16 * b) % 128) ((nx + 16 * c) % 128)) hop ht h0 neg
  have w1 := fun W => When_any ⟨op, fr, tt, nx⟩ t neg W
  have w2 := fun W => When_any ⟨op, (fr + 16 * a) % 128, (tt + 16 * b) % 128, (nx + 16 * c) % 128⟩ t neg W
  rw [e1, e2] at w1
  rw [f1, f2, fol_pl (fr := fr) (tt := tt) (nx := nx) (by omega) (by omega) (by omega)] at w2
  obtain ⟨g1, g2, g3, g4⟩ := fol_spec ho t neg
  have q1 := fol_two h2.1 h3.1 h4.1 t neg (op := op)
  have q2 := fol_three h2.1 h3.1 h4.1 t neg (op := op)
  have q3 := fol_mul h2.1 h3.1 h4.1 t neg
  unfold Tm at ht
  unfold Ad at g1
  refine ⟨_, _, _, w1, w2, fol_at t neg, by simpa using g4, by simpa using g4, g1, by omega, q1, q2, fun e => by subst e; exact q3⟩
set_option maxRecDepth 100000 in
set_option maxHeartbeats 16000000 in
theorem next_any_law (hA : AwakeTrue) (w : World) (o : Od) (t : Int) (a b c : Int) (ha : 0 ≤ a ∧ a ≤ 255) (hb : 0 ≤ b ∧ b ≤ 255) (hc : 0 ≤ c ∧ c ≤ 255) : Calls Try.prog 12 #[o.val, .int .i64 t, arr3 a b c] w (Ret w (.bool true)) := by
  have HA := hid hA
  obtain ⟨op, fr, tt, nx⟩ := o
  have hz0 : ((w.alloc (.cells #[.int .i64 op, .int .i64 fr, .int .i64 tt, .int .i64 nx] 23)).alloc (.cells #[.int .u8 a, .int .u8 b, .int .u8 c] 59)).heap.size = w.heap.size + 2 := by simp
  have OB := hid (blkT' w (.cells #[.int .u8 a, .int .u8 b, .int .u8 c] 59) #[.int .i64 op, .int .i64 fr, .int .i64 tt, .int .i64 nx] 23)
  have AB := hid (blkU' w (.cells #[.int .i64 op, .int .i64 fr, .int .i64 tt, .int .i64 nx] 23) #[.int .u8 a, .int .u8 b, .int .u8 c] 59)
  have HB0 := hid (b_alloc (b_alloc (Below.refl w.heap.size w) (.cells #[.int .i64 op, .int .i64 fr, .int .i64 tt, .int .i64 nx] 23)) (.cells #[.int .u8 a, .int .u8 b, .int .u8 c] 59))
  by_cases he : whenErr ⟨op, fr, tt, nx⟩ t = 0
  · obtain ⟨ho, ht, h0⟩ := when_of_ok he
    obtain ⟨h1, h2, h3, h4⟩ := ho
    simp only at h1 h2 h3 h4 h0
    unfold Tm at ht
    have HWT := hid (fun neg => when_two he ha hb hc neg)
    have hcs : op = 1 ∨ op = 2 ∨ op = 3 ∨ op = 4 ∨ op = 5 ∨ op = 6 ∨ op = 7 := by omega
    clear hA he h1 h0 hz0
    go_enter Try.func12, Try.ntmps12
    go_wp2
    generalize (w.alloc (.cells #[.int .i64 op, .int .i64 fr, .int .i64 tt, .int .i64 nx] 23)).alloc (.cells #[.int .u8 a, .int .u8 b, .int .u8 c] 59) = W0 at *
    go_loopw [7] (fun iv wr => ∃ k : Nat, k ≤ 2 ∧ iv = .int .i64 (k : Int) ∧ Below W0.heap.size W0 wr) (fun iv _ => 2 - (intOf iv).toNat)
    case atStart => exact ⟨0, by omega, rfl, Below.refl _ _⟩
    case round =>
      obtain ⟨k, hk, rfl, hbr⟩ := hrel
      have HBR := hid hbr
      have OBR := hid (OB.out.call hbr)
      have ABR := hid (AB.out.call hbr)
      have M0 := hid trivial
      obtain ⟨y0, y1, y2, y3⟩ := odBlk OBR.out
      have u0 := ABR.out.cell 0 _ rfl
      have u1 := ABR.out.cell 1 _ rfl
      have u2 := ABR.out.cell 2 _ rfl
      clear hbr
      rcases (by omega : k = 0 ∨ k = 1 ∨ k = 2) with rfl | rfl | rfl
      · obtain ⟨z1, u, x1, p1, p2, p3, p4, p5, p6, p7, p8, p9, p10⟩ := HWT.out false
        simp only [Bool.false_eq_true, and_false, if_false] at p3
        subst p3
        have W1 := hid p1
        have W2 := hid p2
        clear p1 p2 HWT
        rcases hcs with rfl | rfl | rfl | rfl | rfl | rfl | rfl
        all_goals
          simp at p8 p9 p10
          go_wp2_with (first
            | (have m := M0; go_at_call 24; refine (W1.out _).mono ?_; rintro e w1 ⟨rfl, hb1⟩; have HB1 := hid hb1; clear y0 y1 y2 y3 u0 u1 u2; obtain ⟨y0, y1, y2, y3⟩ := odBlk (OBR.out.call hb1); have u0 := (ABR.out.call hb1).cell 0 _ rfl; have u1 := (ABR.out.call hb1).cell 1 _ rfl; have u2 := (ABR.out.call hb1).cell 2 _ rfl; clear hb1 m M0; have M1 := hid trivial)
            | (go_at_call 24; refine (W2.out _).mono ?_; rintro e w2 ⟨rfl, hb2⟩; have HB2 := hid (b_call hb2 (b_alloc HB1.out _)); clear hb2))
          go_roundw
          case rel => exact ⟨1, by omega, by go_num, b_call HB2.out HBR.out⟩
          case measure => simp [intOf]
      · obtain ⟨z1, u, x1, p1, p2, p3, p4, p5, p6, p7, p8, p9, p10⟩ := HWT.out true
        have W1 := hid p1
        have W2 := hid p2
        clear p1 p2 HWT
        rcases (by omega : op = 5 ∨ (op = 1 ∨ op = 2 ∨ op = 3 ∨ op = 4 ∨ op = 6 ∨ op = 7)) with rfl | hcs
        · simp only [true_and, if_true] at p3
          simp at p8 p9 p10
          subst p3
          by_cases hn : z1 = nx
          · subst hn
            go_wp2_with (first
              | (have m := M0; go_at_call 24; refine (W1.out _).mono ?_; rintro e w1 ⟨rfl, hb1⟩; have HB1 := hid hb1; clear y0 y1 y2 y3 u0 u1 u2; obtain ⟨y0, y1, y2, y3⟩ := odBlk (OBR.out.call hb1); have u0 := (ABR.out.call hb1).cell 0 _ rfl; have u1 := (ABR.out.call hb1).cell 1 _ rfl; have u2 := (ABR.out.call hb1).cell 2 _ rfl; clear hb1 m M0; have M1 := hid trivial)
              | (go_at_call 24; refine (W2.out _).mono ?_; rintro e w2 ⟨rfl, hb2⟩; have HB2 := hid (b_call hb2 (b_alloc HB1.out _)); clear hb2))
            go_roundw
            case rel => exact ⟨2, by omega, by go_num, b_call HB2.out HBR.out⟩
            case measure => simp [intOf]
          · have hn1 : (z1 == nx) = false := by simpa using hn
            have hn2 : (z1 != nx) = true := by simpa using hn
            go_wp2_with (first
              | (have m := M0; go_at_call 24; refine (W1.out _).mono ?_; rintro e w1 ⟨rfl, hb1⟩; have HB1 := hid hb1; clear y0 y1 y2 y3 u0 u1 u2; obtain ⟨y0, y1, y2, y3⟩ := odBlk (OBR.out.call hb1); have u0 := (ABR.out.call hb1).cell 0 _ rfl; have u1 := (ABR.out.call hb1).cell 1 _ rfl; have u2 := (ABR.out.call hb1).cell 2 _ rfl; clear hb1 m M0; have M1 := hid trivial)
              | (go_at_call 24; refine (W2.out _).mono ?_; rintro e w2 ⟨rfl, hb2⟩; have HB2 := hid (b_call hb2 (b_alloc HB1.out _)); clear hb2))
            go_roundw
            case rel => exact ⟨2, by omega, by go_num, b_call HB2.out HBR.out⟩
            case measure => simp [intOf]
        · rcases hcs with rfl | rfl | rfl | rfl | rfl | rfl
          all_goals
          simp at p3 p8 p9 p10
          subst p3
          go_wp2_with (first
            | (have m := M0; go_at_call 24; refine (W1.out _).mono ?_; rintro e w1 ⟨rfl, hb1⟩; have HB1 := hid hb1; clear y0 y1 y2 y3 u0 u1 u2; obtain ⟨y0, y1, y2, y3⟩ := odBlk (OBR.out.call hb1); have u0 := (ABR.out.call hb1).cell 0 _ rfl; have u1 := (ABR.out.call hb1).cell 1 _ rfl; have u2 := (ABR.out.call hb1).cell 2 _ rfl; clear hb1 m M0; have M1 := hid trivial)
            | (go_at_call 24; refine (W2.out _).mono ?_; rintro e w2 ⟨rfl, hb2⟩; have HB2 := hid (b_call hb2 (b_alloc HB1.out _)); clear hb2))
          go_roundw
          case rel => exact ⟨2, by omega, by go_num, b_call HB2.out HBR.out⟩
          case measure => simp [intOf]
      · go_wp2_with (go_at_call 23; refine (HA.out _).mono ?_; rintro e w7 ⟨rfl, hb7⟩; have HB7 := hid (b_call hb7 HBR.out); clear hb7)
        go_ret
        exact ⟨rfl, HB0.out.trans (HB7.out.mono HB0.out.size)⟩
  · have hw := fun W => When_any ⟨op, fr, tt, nx⟩ t false W
    have hz : whenOf ⟨op, fr, tt, nx⟩ t false = (0, 0) := by unfold whenOf; rw [if_neg he]
    rw [hz] at hw
    have hne : (whenErr ⟨op, fr, tt, nx⟩ t == 0) = false := by simpa using he
    have hnf : (whenErr ⟨op, fr, tt, nx⟩ t != 0) = true := by simpa using he
    generalize whenErr ⟨op, fr, tt, nx⟩ t = er at *
    have W1 := hid hw
    clear hw hz hA hz0
    go_enter Try.func12, Try.ntmps12
    go_wp2
    generalize (w.alloc (.cells #[.int .i64 op, .int .i64 fr, .int .i64 tt, .int .i64 nx] 23)).alloc (.cells #[.int .u8 a, .int .u8 b, .int .u8 c] 59) = W0 at *
    go_loopw [7] (fun iv wr => iv = .int .i64 0 ∧ Below W0.heap.size W0 wr) (fun iv _ => 2 - (intOf iv).toNat)
    case atStart => exact ⟨rfl, Below.refl _ _⟩
    case round =>
      obtain ⟨rfl, hbr⟩ := hrel
      have HBR := hid hbr
      have OBR := hid (OB.out.call hbr)
      obtain ⟨y0, y1, y2, y3⟩ := odBlk OBR.out
      clear hbr
      go_wp2_with (first
        | (go_at_call 24; refine (W1.out _).mono ?_; rintro e w1 ⟨rfl, hb1⟩; have HB1 := hid (b_call hb1 HBR.out); clear hb1)
        | (go_at_call 23; refine (HA.out _).mono ?_; rintro e w7 ⟨rfl, hb7⟩; have HB7 := hid (b_call hb7 HB1.out); clear hb7))
      go_ret
      exact ⟨rfl, HB0.out.trans (HB7.out.mono HB0.out.size)⟩
end Go.Proofs.Ytphbcljhfadmaaa
