/-
  States; slices.Clone; numbersStated and Check.
-/
import Derived.Test.YtbfhgcnfhjhgcaaRefTimes
namespace Go.Proofs.Ytbfhgcnfhjhgcaa
open Go.RowKit
set_option linter.unusedVariables false
set_option linter.unusedSimpArgs false

/-- A state, as plain numbers. -/
structure St where
  store : List Int
  tape : List Int
  taken : Int
  printed : List Int
  time : Int
  at_ : Int
  done : Int
  why : Int
/-- Where a state's three slices begin, and their capacities. -/
structure Sl where
  a : Option Addr
  b : Option Addr
  c : Option Addr
  ca : Nat
  cb : Nat
  cc : Nat
abbrev stCells (q : Sl) (s : St) : Array Value := #[.slice q.a s.store.length q.ca, .slice q.b s.tape.length q.cb, .int .i64 s.taken, .slice q.c s.printed.length q.cc, .int .i64 s.time, .int .i64 s.at_, .int .i64 s.done, .int .i64 s.why]
abbrev stVal (q : Sl) (s : St) : Value := .agg (stCells q s)
/-- The slices of a state hold its numbers. -/
def StAt (W : World) (q : Sl) (s : St) : Prop := IntsAt W q.a s.store ∧ IntsAt W q.b s.tape ∧ IntsAt W q.c s.printed
theorem StAt.below {W W' : World} {q : Sl} {s : St} (h : StAt W q s) (hb : Below W.heap.size W W') : StAt W' q s := ⟨h.1.below hb, h.2.1.below hb, h.2.2.below hb⟩
/-- The lengths are those of slices. -/
def StLen (s : St) : Prop := Len s.store.length ∧ Len s.tape.length ∧ Len s.printed.length

set_option maxRecDepth 100000 in
set_option maxHeartbeats 2000000 in
theorem Clone_any (a : Option Addr) (c : Nat) (xs : List Int) (hl : Len xs.length) (w : World) (hx : IntsAt w a xs) :
    Calls Try.prog 58 #[.slice a xs.length c] w fun e w' => ∃ v, e = .returned v ∧ w'.ownsRow w.heap.size 3 1 v xs.length (xs.map (Value.int .i64)) ∧ Below w.heap.size w w' := by
  obtain ⟨iI, hiI, hzI0, hzI1, hzI2⟩ := info_parts infoI
  have qn : ∀ (w : World) (a : Option Addr) (n c n' c' : Nat), (binOp .eql 35 (.slice a n c) (.slice none n' c')).run Try.prog w = .ok (.bool a.isNone) w := fun w a n c n' c' => Lib.run_eql_slice_nil w _ _ a n c n' c' Try.underlying35
  have HX := hid hx
  cases a with
  | none =>
    have h0 : xs = [] := by
      cases xs with
      | nil => rfl
      | cons x xs => obtain ⟨_, _, e, _⟩ := hx 0 (by simp); cases e
    subst h0
    clear hx
    go_enter Try.func58, Try.ntmps58
    go_wp2
    go_ret
    exact ⟨_, rfl, ⟨rfl, .inl ⟨rfl, rfl⟩⟩, Below.refl _ _⟩
  | some ad =>
    clear hx
    go_enter Try.func58, Try.ntmps58
    go_wp2_with (at_builtin; refine wpList_append_own _ rfl _ _ 35 rfl w.heap.size 3 iI (.int .i64 0) 1 8 Try.underlying35 hiI hzI0 hzI1 hzI2 rfl (by decide) _ _ _ rfl (World.ownsRow_made w #[] 0 (Nat.le_refl _) (Nat.zero_le _) rfl) ad xs.length c (xs.map (Value.int .i64)) rfl ?qc1 ?qc2 ?qc3 ?qc4 ?qc5 ?qc6 ?_)
    case qc1 => simp
    case qc2 =>
      intro j u hj
      have hjn : j < xs.length := by
        have := (List.getElem?_eq_some_iff.1 hj).1
        simpa using this
      obtain ⟨b, off, e, hc⟩ := HX.out j hjn
      cases e
      rw [Addr.add_lit]
      refine Lib.cell?_alloc_some _ ?_
      rw [hc, ← hj]
      simp [hjn]
    case qc3 => intro u hu; obtain ⟨x, _, rfl⟩ := List.mem_map.1 hu; rfl
    case qc4 => unfold maxLen; omega
    case qc5 => omega
    case qc6 => simp
    intro v' w1 hown hgrow hnil
    go_wp2
    go_ret
    exact ⟨v', rfl, by simpa using hown, ((Below.refl _ w).alloc (Nat.le_refl _) _).grown hgrow (by simp) (by intro k hk; simp [Value.ownBlock] at hk; omega)⟩

/-! ### numbersStated -/
/-- All of a state but its words is as stated. -/
def numsOk (s : St) : Prop := (0 ≤ s.taken ∧ s.taken ≤ s.tape.length) ∧ Tm s.time ∧ Ad s.at_ ∧ (0 ≤ s.done ∧ s.done ≤ s.time) ∧ 0 ≤ s.why ∧ s.why ≤ 4
instance (s : St) : Decidable (numsOk s) := by unfold numsOk; infer_instance
/-- A state lies in block b. -/
abbrev StBlk (W : World) (b : Nat) (q : Sl) (s : St) : Prop := Blk W b 37 (stCells q s)
theorem stBlk {W : World} {b : Nat} {t : TypeId} {v0 v1 v2 v3 v4 v5 v6 v7 : Value} (h : Blk W b t #[v0, v1, v2, v3, v4, v5, v6, v7]) :
    (W.cell? ⟨b, 0, none⟩ = some v0 ∧ W.cell? ⟨b, 1, none⟩ = some v1 ∧ W.cell? ⟨b, 2, none⟩ = some v2 ∧ W.cell? ⟨b, 3, none⟩ = some v3) ∧ W.cell? ⟨b, 4, none⟩ = some v4 ∧ W.cell? ⟨b, 5, none⟩ = some v5 ∧ W.cell? ⟨b, 6, none⟩ = some v6 ∧ W.cell? ⟨b, 7, none⟩ = some v7 :=
  ⟨⟨h.cell 0 _ rfl, h.cell 1 _ rfl, h.cell 2 _ rfl, h.cell 3 _ rfl⟩, h.cell 4 _ rfl, h.cell 5 _ rfl, h.cell 6 _ rfl, h.cell 7 _ rfl⟩
theorem stFrz {W : World} {b : Nat} {t : TypeId} {cs : Array Value} (h : Blk W b t cs) :
    (W.frozen? ⟨b, 0, none⟩ = false ∧ W.frozen? ⟨b, 1, none⟩ = false ∧ W.frozen? ⟨b, 2, none⟩ = false ∧ W.frozen? ⟨b, 3, none⟩ = false) ∧ W.frozen? ⟨b, 4, none⟩ = false ∧ W.frozen? ⟨b, 5, none⟩ = false ∧ W.frozen? ⟨b, 6, none⟩ = false ∧ W.frozen? ⟨b, 7, none⟩ = false :=
  ⟨⟨h.frozen 0, h.frozen 1, h.frozen 2, h.frozen 3⟩, h.frozen 4, h.frozen 5, h.frozen 6, h.frozen 7⟩
set_option maxRecDepth 100000 in
set_option maxHeartbeats 4000000 in
theorem numbersStated_any (q : Sl) (s : St) (w : World) : Calls Try.prog 53 #[stVal q s] w (Ret w (.bool (decide (numsOk s)))) := by
  have B0 := hid (Blk.new w (stCells q s) 37)
  have hB := b_alloc (Below.refl w.heap.size w) (.cells (stCells q s) 37)
  have HB := hid hB
  have M0 := hid trivial
  have H1 := hid (fun W a c g => out1_any 0 s.tape.length s.taken a c W g)
  have H2 := hid (fun W => isTime_any s.time W)
  have H3 := hid (fun W => isAddress_any s.at_ W)
  have H4 := hid (fun W a c g => out1_any 0 s.time s.done a c W g)
  have H5 := hid (fun W a c g => out1_any 0 4 s.why a c W g)
  have fin : ∀ b : Bool, (b = true ↔ numsOk s) → b = decide (numsOk s) := fun b h => by
    rw [Bool.eq_iff_iff, h]; simp
  clear hB
  by_cases h1 : 0 ≤ s.taken ∧ s.taken ≤ s.tape.length
  · have g1 := hid h1
    clear h1
    by_cases h2 : Tm s.time
    · have g2 := hid h2
      clear h2
      by_cases h3 : Ad s.at_
      · have g3 := hid h3
        clear h3
        by_cases h4 : 0 ≤ s.done ∧ s.done ≤ s.time
        · have g4 := hid h4
          clear h4
          by_cases h5 : 0 ≤ s.why ∧ s.why ≤ 4
          · have g5 := hid h5
            clear h5
            have hn := hid (show true = decide (numsOk s) from fin _ ⟨fun _ => ⟨g1.out, g2.out, g3.out, g4.out, g5.out⟩, fun _ => rfl⟩)
            clear fin
            go_enter Try.func53, Try.ntmps53
            go_wp2_with (first
              | (have m := M0; go_at_call 52; refine (H1.out _ _ _ (ints1' _ _ _ (by simp))).mono ?_; rintro e w1 ⟨rfl, hb1⟩; have HB1 := hid (show Below w.heap.size w w1 from b_call hb1 (b_alloc HB.out _)); have B1 := hid (Blk.call (B0.out.alloc _) hb1); obtain ⟨⟨c0, c1, c2, c3⟩, c4, c5, c6, c7⟩ := stBlk B1.out; rw [if_pos g1.out]; clear hb1 m M0; have M1 := hid trivial)
              | (have m := M1; go_at_call 48; refine (H2.out _).mono ?_; rintro e w2 ⟨rfl, hb2⟩; have HB2 := hid (b_call hb2 HB1.out); have B2 := hid (B1.out.call hb2); clear c0 c1 c2 c3 c4 c5 c6 c7; obtain ⟨⟨c0, c1, c2, c3⟩, c4, c5, c6, c7⟩ := stBlk B2.out; rw [decide_eq_true g2.out]; clear hb2 m M1; have M2 := hid trivial)
              | (have m := M2; go_at_call 57; refine (H3.out _).mono ?_; rintro e w3 ⟨rfl, hb3⟩; have HB3 := hid (b_call hb3 HB2.out); have B3 := hid (B2.out.call hb3); clear c0 c1 c2 c3 c4 c5 c6 c7; obtain ⟨⟨c0, c1, c2, c3⟩, c4, c5, c6, c7⟩ := stBlk B3.out; rw [decide_eq_true g3.out]; clear hb3 m M2; have M3 := hid trivial)
              | (have m := M3; go_at_call 52; refine (H4.out _ _ _ (ints1' _ _ _ (by simp))).mono ?_; rintro e w4 ⟨rfl, hb4⟩; have HB4 := hid (b_call hb4 (b_alloc HB3.out _)); have B4 := hid (Blk.call (B3.out.alloc _) hb4); clear c0 c1 c2 c3 c4 c5 c6 c7; obtain ⟨⟨c0, c1, c2, c3⟩, c4, c5, c6, c7⟩ := stBlk B4.out; rw [if_pos g4.out]; clear hb4 m M3; have M4 := hid trivial)
              | (have m := M4; go_at_call 52; refine (H5.out _ _ _ (ints1' _ _ _ (by simp))).mono ?_; rintro e w5 ⟨rfl, hb5⟩; have HB5 := hid (b_call hb5 (b_alloc HB4.out _)); rw [if_pos g5.out]; clear hb5 m M4))
            go_ret
            exact ⟨ret_bool hn.out, HB5.out⟩
          · have g5 := hid h5
            have hn := hid (show false = decide (numsOk s) from fin _ ⟨fun e => by (cases e), fun n => absurd n.2.2.2.2 g5.out⟩)
            clear fin h5
            go_enter Try.func53, Try.ntmps53
            go_wp2_with (first
              | (have m := M0; go_at_call 52; refine (H1.out _ _ _ (ints1' _ _ _ (by simp))).mono ?_; rintro e w1 ⟨rfl, hb1⟩; have HB1 := hid (show Below w.heap.size w w1 from b_call hb1 (b_alloc HB.out _)); have B1 := hid (Blk.call (B0.out.alloc _) hb1); obtain ⟨⟨c0, c1, c2, c3⟩, c4, c5, c6, c7⟩ := stBlk B1.out; rw [if_pos g1.out]; clear hb1 m M0; have M1 := hid trivial)
              | (have m := M1; go_at_call 48; refine (H2.out _).mono ?_; rintro e w2 ⟨rfl, hb2⟩; have HB2 := hid (b_call hb2 HB1.out); have B2 := hid (B1.out.call hb2); clear c0 c1 c2 c3 c4 c5 c6 c7; obtain ⟨⟨c0, c1, c2, c3⟩, c4, c5, c6, c7⟩ := stBlk B2.out; rw [decide_eq_true g2.out]; clear hb2 m M1; have M2 := hid trivial)
              | (have m := M2; go_at_call 57; refine (H3.out _).mono ?_; rintro e w3 ⟨rfl, hb3⟩; have HB3 := hid (b_call hb3 HB2.out); have B3 := hid (B2.out.call hb3); clear c0 c1 c2 c3 c4 c5 c6 c7; obtain ⟨⟨c0, c1, c2, c3⟩, c4, c5, c6, c7⟩ := stBlk B3.out; rw [decide_eq_true g3.out]; clear hb3 m M2; have M3 := hid trivial)
              | (have m := M3; go_at_call 52; refine (H4.out _ _ _ (ints1' _ _ _ (by simp))).mono ?_; rintro e w4 ⟨rfl, hb4⟩; have HB4 := hid (b_call hb4 (b_alloc HB3.out _)); have B4 := hid (Blk.call (B3.out.alloc _) hb4); clear c0 c1 c2 c3 c4 c5 c6 c7; obtain ⟨⟨c0, c1, c2, c3⟩, c4, c5, c6, c7⟩ := stBlk B4.out; rw [if_pos g4.out]; clear hb4 m M3; have M4 := hid trivial)
              | (have m := M4; go_at_call 52; refine (H5.out _ _ _ (ints1' _ _ _ (by simp))).mono ?_; rintro e w5 ⟨rfl, hb5⟩; have HB5 := hid (b_call hb5 (b_alloc HB4.out _)); rw [if_neg g5.out]; clear hb5 m M4))
            go_ret
            exact ⟨ret_bool hn.out, HB5.out⟩
        · have g4 := hid h4
          have hn := hid (show false = decide (numsOk s) from fin _ ⟨fun e => by (cases e), fun n => absurd n.2.2.2.1 g4.out⟩)
          clear fin h4
          go_enter Try.func53, Try.ntmps53
          go_wp2_with (first
            | (have m := M0; go_at_call 52; refine (H1.out _ _ _ (ints1' _ _ _ (by simp))).mono ?_; rintro e w1 ⟨rfl, hb1⟩; have HB1 := hid (show Below w.heap.size w w1 from b_call hb1 (b_alloc HB.out _)); have B1 := hid (Blk.call (B0.out.alloc _) hb1); obtain ⟨⟨c0, c1, c2, c3⟩, c4, c5, c6, c7⟩ := stBlk B1.out; rw [if_pos g1.out]; clear hb1 m M0; have M1 := hid trivial)
            | (have m := M1; go_at_call 48; refine (H2.out _).mono ?_; rintro e w2 ⟨rfl, hb2⟩; have HB2 := hid (b_call hb2 HB1.out); have B2 := hid (B1.out.call hb2); clear c0 c1 c2 c3 c4 c5 c6 c7; obtain ⟨⟨c0, c1, c2, c3⟩, c4, c5, c6, c7⟩ := stBlk B2.out; rw [decide_eq_true g2.out]; clear hb2 m M1; have M2 := hid trivial)
            | (have m := M2; go_at_call 57; refine (H3.out _).mono ?_; rintro e w3 ⟨rfl, hb3⟩; have HB3 := hid (b_call hb3 HB2.out); have B3 := hid (B2.out.call hb3); clear c0 c1 c2 c3 c4 c5 c6 c7; obtain ⟨⟨c0, c1, c2, c3⟩, c4, c5, c6, c7⟩ := stBlk B3.out; rw [decide_eq_true g3.out]; clear hb3 m M2; have M3 := hid trivial)
            | (have m := M3; go_at_call 52; refine (H4.out _ _ _ (ints1' _ _ _ (by simp))).mono ?_; rintro e w4 ⟨rfl, hb4⟩; have HB4 := hid (b_call hb4 (b_alloc HB3.out _)); have B4 := hid (Blk.call (B3.out.alloc _) hb4); clear c0 c1 c2 c3 c4 c5 c6 c7; obtain ⟨⟨c0, c1, c2, c3⟩, c4, c5, c6, c7⟩ := stBlk B4.out; rw [if_neg g4.out]; clear hb4 m M3; have M4 := hid trivial))
          go_ret
          exact ⟨ret_bool hn.out, HB4.out⟩
      · have g3 := hid h3
        have hn := hid (show false = decide (numsOk s) from fin _ ⟨fun e => by (cases e), fun n => absurd n.2.2.1 g3.out⟩)
        clear fin h3
        go_enter Try.func53, Try.ntmps53
        go_wp2_with (first
          | (have m := M0; go_at_call 52; refine (H1.out _ _ _ (ints1' _ _ _ (by simp))).mono ?_; rintro e w1 ⟨rfl, hb1⟩; have HB1 := hid (show Below w.heap.size w w1 from b_call hb1 (b_alloc HB.out _)); have B1 := hid (Blk.call (B0.out.alloc _) hb1); obtain ⟨⟨c0, c1, c2, c3⟩, c4, c5, c6, c7⟩ := stBlk B1.out; rw [if_pos g1.out]; clear hb1 m M0; have M1 := hid trivial)
          | (have m := M1; go_at_call 48; refine (H2.out _).mono ?_; rintro e w2 ⟨rfl, hb2⟩; have HB2 := hid (b_call hb2 HB1.out); have B2 := hid (B1.out.call hb2); clear c0 c1 c2 c3 c4 c5 c6 c7; obtain ⟨⟨c0, c1, c2, c3⟩, c4, c5, c6, c7⟩ := stBlk B2.out; rw [decide_eq_true g2.out]; clear hb2 m M1; have M2 := hid trivial)
          | (have m := M2; go_at_call 57; refine (H3.out _).mono ?_; rintro e w3 ⟨rfl, hb3⟩; have HB3 := hid (b_call hb3 HB2.out); have B3 := hid (B2.out.call hb3); clear c0 c1 c2 c3 c4 c5 c6 c7; obtain ⟨⟨c0, c1, c2, c3⟩, c4, c5, c6, c7⟩ := stBlk B3.out; rw [decide_eq_false g3.out]; clear hb3 m M2; have M3 := hid trivial))
        go_ret
        exact ⟨ret_bool hn.out, HB3.out⟩
    · have g2 := hid h2
      have hn := hid (show false = decide (numsOk s) from fin _ ⟨fun e => by (cases e), fun n => absurd n.2.1 g2.out⟩)
      clear fin h2
      go_enter Try.func53, Try.ntmps53
      go_wp2_with (first
        | (have m := M0; go_at_call 52; refine (H1.out _ _ _ (ints1' _ _ _ (by simp))).mono ?_; rintro e w1 ⟨rfl, hb1⟩; have HB1 := hid (show Below w.heap.size w w1 from b_call hb1 (b_alloc HB.out _)); have B1 := hid (Blk.call (B0.out.alloc _) hb1); obtain ⟨⟨c0, c1, c2, c3⟩, c4, c5, c6, c7⟩ := stBlk B1.out; rw [if_pos g1.out]; clear hb1 m M0; have M1 := hid trivial)
        | (have m := M1; go_at_call 48; refine (H2.out _).mono ?_; rintro e w2 ⟨rfl, hb2⟩; have HB2 := hid (b_call hb2 HB1.out); have B2 := hid (B1.out.call hb2); clear c0 c1 c2 c3 c4 c5 c6 c7; obtain ⟨⟨c0, c1, c2, c3⟩, c4, c5, c6, c7⟩ := stBlk B2.out; rw [decide_eq_false g2.out]; clear hb2 m M1; have M2 := hid trivial))
      go_ret
      exact ⟨ret_bool hn.out, HB2.out⟩
  · have g1 := hid h1
    have hn := hid (show false = decide (numsOk s) from fin _ ⟨fun e => by (cases e), fun n => absurd n.1 g1.out⟩)
    clear fin h1
    go_enter Try.func53, Try.ntmps53
    go_wp2_with (first
      | (have m := M0; go_at_call 52; refine (H1.out _ _ _ (ints1' _ _ _ (by simp))).mono ?_; rintro e w1 ⟨rfl, hb1⟩; have HB1 := hid (show Below w.heap.size w w1 from b_call hb1 (b_alloc HB.out _)); have B1 := hid (Blk.call (B0.out.alloc _) hb1); obtain ⟨⟨c0, c1, c2, c3⟩, c4, c5, c6, c7⟩ := stBlk B1.out; rw [if_neg g1.out]; clear hb1 m M0; have M1 := hid trivial))
    go_ret
    exact ⟨ret_bool hn.out, HB1.out⟩
end Go.Proofs.Ytbfhgcnfhjhgcaa
