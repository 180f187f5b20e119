/-
  Can.
-/
import Derived.Test.YtggkhddficmnfaaCan
namespace Go.Proofs.Ytggkhddficmnfaa
open Go.RowKit
set_option linter.unusedVariables false
set_option linter.unusedSimpArgs false

/-- How many temperatures a span has. -/
def spanN (s : Int × Int) : Nat := (s.2 - s.1 + 1).toNat
/-- The numbers by which words can be late after some spans. -/
def Reach (l : Ln) (ss : List (Int × Int)) (nb : Nat) : Nat → Nat → Prop
  | 0, n => n = 0
  | k + 1, n => ∃ s m : Nat, within' l (ss[k]?.getD (0, 0)).1 (spanN (ss[k]?.getD (0, 0))) s false = true ∧ Reach l ss nb k m ∧ n = (m + s) % nb
/-- Pulses can be lost within some spans. -/
def lostTo (l : Ln) (ss : List (Int × Int)) (k : Nat) : Bool := (List.range k).any fun j => within' l (ss[j]?.getD (0, 0)).1 (spanN (ss[j]?.getD (0, 0))) 0 true
theorem lostTo_succ (l : Ln) (ss : List (Int × Int)) (k : Nat) : lostTo l ss (k + 1) = (lostTo l ss k || within' l (ss[k]?.getD (0, 0)).1 (spanN (ss[k]?.getD (0, 0))) 0 true) := by simp [lostTo, List.range_succ]

theorem b_alloc2 {W W' : World} {o : Obj} (h : Below (W.alloc o).heap.size (W.alloc o) W') : Below W.heap.size W W' := b_call h (b_alloc (Below.refl _ _) _)
/-- The result's block, as it was laid. -/
def CB (W : World) (b : Nat) : Prop := Cel W b 0 (.slice none 0 0) ∧ Cel W b 1 (.bool false)
theorem CB.call {W W' : World} {b : Nat} (h : CB W b) (hb : Below W.heap.size W W') : CB W' b := ⟨h.1.call hb, h.2.call hb⟩
theorem CB.new (W : World) : CB (W.alloc (.cells #[.slice none 0 0, .bool false] 42)) W.heap.size := ⟨Cel.new _ _ _ 0 _ rfl, Cel.new _ _ _ 1 _ rfl⟩
theorem spansErr_zero {ss : List (Int × Int)} (h : spansErr ss = 0) : ∀ k, k < ss.length → spanErr (ss[k]?.getD (0, 0)) = 0 := by
  induction ss with
  | nil => intro k hk; simp at hk
  | cons s r ih =>
    rw [spansErr] at h
    by_cases hs : spanErr s = 0
    · rw [if_pos hs] at h
      intro k hk
      cases k with
      | zero => simpa using hs
      | succ k => simpa using ih h k (by simpa using hk)
    · rw [if_neg hs] at h; exact absurd h hs
theorem spanErr_ok {s : Int × Int} (h : spanErr s = 0) : -500 ≤ s.1 ∧ s.2 ≤ 1000 ∧ s.1 ≤ s.2 := by
  unfold spanErr at h
  by_cases h1 : Temp s.1 ∧ Temp s.2
  · rw [if_pos h1] at h
    by_cases h2 : s.1 ≤ s.2
    · exact ⟨h1.1.1, h1.2.2, h2⟩
    · rw [if_neg h2] at h; cases h
  · rw [if_neg h1] at h; cases h
theorem within'_bd {l : Ln} (h : l.Ok) {lo : Int} {k : Nat} {s : Int} {c : Bool} (hw : within' l lo k s c = true) : 0 ≤ s ∧ s < l.W * l.B := by
  unfold within' at hw
  obtain ⟨j, _, hj⟩ := List.any_eq_true.1 hw
  have hs : s = l.rS (lo + j) % (l.W * l.B) := by
    have := (Bool.and_eq_true _ _ ▸ hj : _ ∧ _).1
    exact eq_of_beq this
  have := h.beats1
  rw [hs]
  exact ⟨Int.emod_nonneg _ (by omega), Int.emod_lt_of_pos _ (by omega)⟩
theorem Reach.lt {l : Ln} {ss : List (Int × Int)} {nb : Nat} (h1 : 1 ≤ nb) : ∀ {k n : Nat}, Reach l ss nb k n → n < nb
  | 0, n, h => by rw [Reach] at h; omega
  | k + 1, n, h => by obtain ⟨s, m, _, _, rfl⟩ := h; exact Nat.mod_lt _ (by omega)

set_option maxRecDepth 100000 in
set_option maxHeartbeats 2000000 in
theorem Can_ok (l : Ln) (h : l.Ok) (nb : Nat) (hnb : l.W * l.B = (nb : Int)) (a : Option Addr) (ca : Nat) (ss : List (Int × Int)) (hlt : ss.length ≤ 60) (he : spansErr ss = 0) (w : World) (hx : SpansAt w a ss) :
    Calls Try.prog 32 #[l.val, .slice a ss.length ca] w fun e w' => ∃ v ns, e = .returned (.tuple #[.agg #[v, .bool (lostTo l ss ss.length)], .int .i64 0]) ∧ w'.ownsRow w.heap.size 3 1 v ns.length (cellsN ns) ∧
      (∀ n, n ∈ ns ↔ Reach l ss nb ss.length n) ∧ ns.Pairwise (· < ·) ∧ Below w.heap.size w w' := by
  have hb := h.beats
  have hb1 := h.beats1
  have HX := hid hx
  have HE := hid (show canErr l ss = 0 by unfold canErr; rw [if_pos h, if_pos hlt]; exact he)
  have HNB := hid hnb
  have HB := hid (fun W => (beats_any l h W))
  have hnb1 : 1 ≤ nb ∧ nb ≤ 2560 := by omega
  have hbt := fun W => beats_any l h W
  rw [hnb] at hbt
  have HBT := hid hbt
  have hnb' := numbersBelow_any nb (by omega)
  obtain ⟨N1, hN1⟩ : ∃ N1, nb / 64 + 2 = N1 := ⟨_, rfl⟩
  rw [hN1] at hnb'
  have HNB' := hid hnb'
  have HN1 := hid hN1
  have hN1b : 2 ≤ N1 ∧ N1 ≤ 100 ∧ nb < 64 * N1 := by omega
  clear hnb' hN1
  have HSE := hid (spansErr_zero he)
  clear hx hbt HB hb hb1 he
  have hL0 := hid (lnAt_call (lnAt_new' l w) (b_alloc (Below.refl _ _) (.cells #[.slice none 0 0, .bool false] 42)))
  have hC0 := CB.new (w.alloc (.cells #[.int .i64 l.W, .int .i64 l.B, .int .i64 l.P, .int .i64 l.D, .int .i64 l.S, .int .i64 l.N] 25))
  rw [World.size_alloc] at hC0
  have HC0 := hid hC0
  clear hC0
  go_enter Try.func32, Try.ntmps32
  go_wp2_with (first
    | (go_at_call 69; refine (canError_any l a ca ss (by unfold Len; omega) _ (by exact HX.out.below (by (repeat (first | assumption | exact Below.refl _ _ | refine b_alloc ?_ _ | refine Below.drew ?_ | refine b_drewN ?_ _ | refine Below.setCell ?_ (by first | omega | (simp; done) | (simp; omega)) _ | refine b_call (by assumption) ?_))))).mono ?_; rintro e w1 ⟨rfl, hb1⟩; rw [HE.out]; have hB1 := hid (show Below w.heap.size w w1 by (repeat (first | assumption | exact Below.refl _ _ | refine b_alloc ?_ _ | refine Below.drew ?_ | refine b_drewN ?_ _ | refine Below.setCell ?_ (by first | omega | (simp; done) | (simp; omega)) _ | refine b_call (by assumption) ?_))); have HC1 := hid (HC0.out.call hb1); have hL1 := hid (lnAt_call hL0.out hb1); obtain ⟨d0, d1, d2, d3, d4, d5⟩ := hL1.out; clear hb1)
    | (go_at_call 71; refine (HBT.out _).mono ?_; rintro e w2 ⟨rfl, hb2⟩; have hB2 := hid (b_call hb2 hB1.out); have HC2 := hid (HC1.out.call hb2); have hL2 := hid (lnAt_call hL1.out hb2); clear d0 d1 d2 d3 d4 d5 hb2)
    | (go_at_call 70; refine (HNB'.out _).mono ?_; rintro e w3 ⟨g3, c3, rfl, hn3, hb3⟩; have hB3 := hid (b_call hb3 hB2.out); have HC3 := hid (HC2.out.call hb3); have hL3 := hid (lnAt_call hL2.out hb3); have hA := add_any (List.replicate N1 0) 0 (by rw [List.length_replicate]; omega) (by omega) _ g3 c3 w3 hn3; rw [List.length_replicate, show ((0 : Nat) : Int) = 0 from rfl] at hA; have HA := hid hA; have HN3 := hid hn3; clear hn3 hb3 hA)
    | (go_at_call 72; refine HA.out.mono ?_; rintro e w4 ⟨rfl, hn4, hg4⟩; have HN4 := hid hn4; have HG4 := hid hg4; clear hn4 hg4))
  have hL4 : LnAt w.heap.size l w4 := by
    obtain ⟨a0, a1, a2, a3, a4, a5⟩ := hL3.out
    have e := HG4.out.block w.heap.size (by have := World.block_lt_of_cell? _ _ a0; simpa using this) (by have := HN3.out.lt; have := hB2.out.size; have := World.block_lt_of_cell? _ _ hL2.out.1; simp only at this; simp; omega)
    exact ⟨(World.cell?_of_block (a := ⟨w.heap.size, 0, none⟩) e).trans a0, (World.cell?_of_block (a := ⟨w.heap.size, 1, none⟩) e).trans a1, (World.cell?_of_block (a := ⟨w.heap.size, 2, none⟩) e).trans a2, (World.cell?_of_block (a := ⟨w.heap.size, 3, none⟩) e).trans a3, (World.cell?_of_block (a := ⟨w.heap.size, 4, none⟩) e).trans a4, (World.cell?_of_block (a := ⟨w.heap.size, 5, none⟩) e).trans a5⟩
  have hC4 : CB w4 (w.heap.size + 1) := ⟨HC3.out.1.grown HG4.out (fun r e => by cases e; have := HN3.out.lt; have := HC2.out.1.lt; omega), HC3.out.2.grown HG4.out (fun r e => by cases e; have := HN3.out.lt; have := HC2.out.1.lt; omega)⟩
  have hB4 : Below w.heap.size w w4 := hB3.out.grown HG4.out hB3.out.size (fun k e => by cases e; have := HN3.out.lt; have := hB2.out.size; omega)
  have hn4 : NumsAt w4 w.heap.size g3 c3 ((List.replicate N1 0).set (0 / 64) ((List.replicate N1 0)[0 / 64]?.getD 0 ||| 2 ^ (0 % 64))) := HN4.out.low hB2.out.size
  have hm4 : ∀ n, mem ((List.replicate N1 0).set (0 / 64) ((List.replicate N1 0)[0 / 64]?.getD 0 ||| 2 ^ (0 % 64))) n = true ↔ Reach l ss nb 0 n := fun n => by
    rw [mem_add (by simp; omega), mem_zero, Reach]; simp
  go_loopw [7, 8, 26] (fun lo v i wr => ∃ (k g c : Nat) (zs : List Nat), k ≤ ss.length ∧ i = .int .i64 k ∧ lo = .bool (lostTo l ss k) ∧ v = .slice (some ⟨g, 0, none⟩) N1 c ∧ zs.length = N1 ∧ NumsAt wr w.heap.size g c zs ∧ (∀ n, mem zs n = true ↔ Reach l ss nb k n) ∧
      LnAt w.heap.size l wr ∧ CB wr (w.heap.size + 1) ∧ Below w.heap.size w wr) (fun _ _ i _ => ss.length - (intOf i).toNat)
  case atStart => exact ⟨0, g3, c3, _, Nat.zero_le _, rfl, by simp [lostTo], rfl, by simp, hn4, hm4, hL4, hC4, hB4⟩
  case round =>
    obtain ⟨k, g, c, zs, hk, rfl, rfl, rfl, hzl, hz, hm, hln, hcb, hbr⟩ := hrel
    have HCB := hid hcb
    clear hL4 hB4 hn4 hm4 hC4 hcb
    have HZL := hid hzl
    have HZ := hid hz
    have HM := hid hm
    have HLN := hid hln
    clear hzl hz hm
    by_cases hlt2 : k < ss.length
    · obtain ⟨b, off, rfl, hc1, hc2⟩ := (HX.out.below hbr) k hlt2
      have hse := spanErr_ok (HSE.out k hlt2)
      have hls := lostTo_succ l ss k
      have hrs : ∀ n, Reach l ss nb (k + 1) n ↔ ∃ s m : Nat, within' l (ss[k]?.getD (0, 0)).1 (spanN (ss[k]?.getD (0, 0))) s false = true ∧ Reach l ss nb k m ∧ n = (m + s) % nb := fun n => Iff.rfl
      obtain ⟨sp, hs⟩ : ∃ sp, ss[k]?.getD (0, 0) = sp := ⟨_, rfl⟩
      rw [hs] at hc1 hc2 hse hls
      simp only [hs] at hrs
      clear hs
      obtain ⟨lo, hi⟩ := sp
      simp only at hc1 hc2 hse
      have HRS := hid hrs
      have HLS := hid hls
      have HRW := hid (fun W => roundsWithin_any l h lo hi hse.1 hse.2.1 hse.2.2 W)
      have HSP := hid (show (hi - lo + 1).toNat = spanN (lo, hi) from rfl)
      clear hrs hls
      obtain ⟨lk, hlk⟩ : ∃ lk, lostTo l ss k = lk := ⟨_, rfl⟩
      rw [hlk]
      have HLK := hid hlk
      clear hlk
      obtain ⟨d0, d1, d2, d3, d4, d5⟩ := hln
      have hwf : (Lit.int .i64 0).wf = true := by decide
      have hszl : w.heap.size < wr.heap.size := by have := World.block_lt_of_cell? _ _ d0; simpa using this
      have hbs : b < wr.heap.size := by have := World.block_lt_of_cell? _ _ hc1; simpa using this
      have hlb := fun W b n hy hs => laterBy_any zs nb hnb1.1 hnb1.2 (by rw [HZL.out, HN1.out]) (fun m hm => Reach.lt hnb1.1 ((HM.out m).1 hm)) (within' l lo (spanN (lo, hi))) (fun s c' hw => by have := within'_bd h hw; have := HNB.out; omega) w.heap.size g c b n W hy hs
      rw [HZL.out] at hlb
      have HLB := hid hlb
      clear hlb
      cases lk <;>
      (go_wp2_with (first
        | (go_at_call 73; refine (HRW.out _).mono ?_; rintro e w5 ⟨b5, n5, hn5, rfl, hs5, hb5, hbel5⟩; have HB5 := hid (b_call hbel5 (b_alloc hbr _)); have HBL5 := hid (b_alloc2 hbel5); have HCB5 := hid (HCB.out.call (b_alloc2 hbel5)); have HLN5 := hid (lnAt_call HLN.out (b_alloc2 hbel5)); have HS5 := hid hs5; have hlook := hs5.look pairR Try.underlying105 hwf true; clear hs5 d0 d1 d2 d3 d4 d5 hbel5; obtain ⟨d0, d1, d2, d3, d4, d5⟩ := HLN5.out)
        | (go_at_call 71; refine (HBT.out _).mono ?_; rintro e w6 ⟨rfl, hb6⟩; have HB6 := hid (b_call hb6 HB5.out); have HS6 := hid (HS5.out.below hb6); have HCB6 := hid (HCB5.out.call hb6); have HLN6 := hid (lnAt_call HLN5.out hb6); have HZ6 := hid (HZ.out.below (b_call hb6 HBL5.out)); clear hb6)
        | (go_at_call 74; refine (HLB.out _ _ _ HZ6.out HS6.out).mono ?_; rintro e w7 ⟨g7, c7, zs7, hzl7, rfl, hz7, hm7, hb7⟩; rw [hzl7, HN1.out]; have HB7 := hid (b_call hb7 HB6.out); have HCB7 := hid (HCB6.out.call hb7); have HLN7 := hid (lnAt_call HLN6.out hb7); have HZ7 := hid (hz7.low HB6.out.size); have HM7 := hid hm7; have HZL7 := hid (hzl7.trans HN1.out); clear hz7 hm7 hzl7 hb7)))
      all_goals
        refine ⟨⟨k + 1, g7, c7, zs7, by omega, by go_num, ?_, rfl, HZL7.out, HZ7.out, fun n => ?_, HLN7.out, HCB7.out, HB7.out⟩, by simp [intOf]; omega⟩
        · have e := HSP.out
          rw [HLS.out, HLK.out]
          simp [e]
        · rw [HM7.out, HRS.out]
          constructor
          · rintro ⟨s, m, a1, a2, a3⟩; exact ⟨s, m, a1, (HM.out m).1 a2, a3⟩
          · rintro ⟨s, m, a1, a2, a3⟩; exact ⟨s, m, a1, (HM.out m).2 a2, a3⟩
    · obtain rfl : k = ss.length := by omega
      have hL := list_any zs (by have := HZL.out; omega) w.heap.size g c wr HZ.out
      rw [HZL.out] at hL
      have HLI := hid hL
      clear hL
      go_wp2_with (go_at_call 75; refine HLI.out.mono ?_; rintro e W5 ⟨v, rfl, hv, hb5⟩; obtain ⟨av, cv, rfl, _⟩ := rowInts hv; have HV := hid hv; have HB5 := hid (b_call hb5 hbr); obtain ⟨⟨k0, k1⟩, ⟨k2, k3⟩⟩ := HCB.out.call hb5; have k4 := (World.cell?_setCell_other W5 ⟨w.heap.size + 1, 0, none⟩ ⟨w.heap.size + 1, 1, none⟩ (.slice av (listTo zs (64 * N1)).length cv) (by simp)).trans k2; clear hv hb5)
      have hcl := HCB.out.1.lt
      generalize hV : (Value.slice av (listTo zs (64 * N1)).length cv) = V at *
      have hg1 : W5.grownBy (W5.setCell ⟨w.heap.size + 1, 0, none⟩ V) (some (w.heap.size + 1)) := ⟨rfl, rfl, rfl, by simp, fun k hk hne => Below.heap_setCell W5 _ _ k (fun e => hne (by rw [e]))⟩
      have hg2 : (W5.setCell ⟨w.heap.size + 1, 0, none⟩ V).grownBy ((W5.setCell ⟨w.heap.size + 1, 0, none⟩ V).setCell ⟨w.heap.size + 1, 1, none⟩ (.bool (lostTo l ss ss.length))) (some (w.heap.size + 1)) := ⟨rfl, rfl, rfl, by simp, fun k hk hne => Below.heap_setCell _ _ _ k (fun e => hne (by rw [e]))⟩
      have hvb : V.ownBlock ≠ some (w.heap.size + 1) := fun e => by have := (HV.out.lt _ e).1; omega
      have z0 := (World.cell?_setCell_other (W5.setCell ⟨w.heap.size + 1, 0, none⟩ V) ⟨w.heap.size + 1, 1, none⟩ ⟨w.heap.size + 1, 0, none⟩ (.bool (lostTo l ss ss.length)) (by simp)).trans (World.cell?_setCell_same' W5 ⟨w.heap.size + 1, 0, none⟩ V (by rw [k0]; rfl))
      have z1 := World.cell?_setCell_same' (W5.setCell ⟨w.heap.size + 1, 0, none⟩ V) ⟨w.heap.size + 1, 1, none⟩ (.bool (lostTo l ss ss.length)) (by rw [k4]; rfl)
      have hbf := (HB5.out.grown hg1 HB5.out.size (fun k e => by cases e; omega)).grown hg2 (by have := HB5.out.size; simp; omega) (fun k e => by cases e; omega)
      have hrow := ownsRow_low ((HV.out.kept hg1 (.inr hvb)).kept hg2 (.inr hvb)) hbr.size
      generalize World.setCell (World.setCell W5 ⟨w.heap.size + 1, 0, none⟩ V) ⟨w.heap.size + 1, 1, none⟩ (.bool (lostTo l ss ss.length)) = WF at *
      refine ⟨rfl, .tuple #[.agg #[V, .bool (lostTo l ss ss.length)], .int .i64 0], ?_, V, listTo zs (64 * N1), rfl, hrow, fun n => ?_, ?_, hbf⟩
      · simp [results, Try.f32, go_sem, z0, z1]
      · rw [← HM.out n]
        constructor
        · intro hn; exact (List.mem_filter.1 hn).2
        · intro hn
          refine List.mem_filter.2 ⟨List.mem_range.2 ?_, hn⟩
          have := Reach.lt hnb1.1 ((HM.out n).1 hn); omega
      · exact List.Pairwise.filter _ List.pairwise_lt_range

set_option maxRecDepth 100000 in
set_option maxHeartbeats 1000000 in
theorem Can_err (l : Ln) (a : Option Addr) (ca : Nat) (ss : List (Int × Int)) (hn : Len ss.length) (hne : canErr l ss ≠ 0) (w : World) (hx : SpansAt w a ss) :
    Calls Try.prog 32 #[l.val, .slice a ss.length ca] w (Ret w (.tuple #[.agg #[.slice none 0 0, .bool false], .int .i64 (canErr l ss)])) := by
  have HX := hid hx
  have hC0 := CB.new (w.alloc (.cells #[.int .i64 l.W, .int .i64 l.B, .int .i64 l.P, .int .i64 l.D, .int .i64 l.S, .int .i64 l.N] 25))
  rw [World.size_alloc] at hC0
  have HC0 := hid hC0
  have hc := fun W hy => canError_any l a ca ss hn W hy
  generalize canErr l ss = er at *
  have HC := hid hc
  have hne' : (er != 0) = true := by simpa using hne
  clear hx hC0 hc
  go_enter Try.func32, Try.ntmps32
  go_wp2_with (go_at_call 69; refine (HC.out _ (by exact HX.out.below (by (repeat (first | assumption | exact Below.refl _ _ | refine b_alloc ?_ _ | refine Below.drew ?_ | refine b_drewN ?_ _ | refine Below.setCell ?_ (by first | omega | (simp; done) | (simp; omega)) _ | refine b_call (by assumption) ?_))))).mono ?_; rintro e w1 ⟨rfl, hb1⟩; have hB1 := hid (show Below w.heap.size w w1 by (repeat (first | assumption | exact Below.refl _ _ | refine b_alloc ?_ _ | refine Below.drew ?_ | refine b_drewN ?_ _ | refine Below.setCell ?_ (by first | omega | (simp; done) | (simp; omega)) _ | refine b_call (by assumption) ?_))); obtain ⟨⟨k0, k1⟩, ⟨k2, k3⟩⟩ := HC0.out.call hb1; have k4 := (World.cell?_setCell_other w1 ⟨w.heap.size + 1, 0, none⟩ ⟨w.heap.size + 1, 1, none⟩ (.slice none 0 0) (by simp)).trans k2; clear hb1)
  have hg1 : w1.grownBy (w1.setCell ⟨w.heap.size + 1, 0, none⟩ (.slice none 0 0)) (some (w.heap.size + 1)) := ⟨rfl, rfl, rfl, by simp, fun k hk hne => Below.heap_setCell w1 _ _ k (fun e => hne (by rw [e]))⟩
  have hg2 : (w1.setCell ⟨w.heap.size + 1, 0, none⟩ (.slice none 0 0)).grownBy ((w1.setCell ⟨w.heap.size + 1, 0, none⟩ (.slice none 0 0)).setCell ⟨w.heap.size + 1, 1, none⟩ (.bool false)) (some (w.heap.size + 1)) := ⟨rfl, rfl, rfl, by simp, fun k hk hne => Below.heap_setCell _ _ _ k (fun e => hne (by rw [e]))⟩
  have z0 := (World.cell?_setCell_other (w1.setCell ⟨w.heap.size + 1, 0, none⟩ (.slice none 0 0)) ⟨w.heap.size + 1, 1, none⟩ ⟨w.heap.size + 1, 0, none⟩ (.bool false) (by simp)).trans (World.cell?_setCell_same' w1 ⟨w.heap.size + 1, 0, none⟩ (.slice none 0 0) (by rw [k0]; rfl))
  have z1 := World.cell?_setCell_same' (w1.setCell ⟨w.heap.size + 1, 0, none⟩ (.slice none 0 0)) ⟨w.heap.size + 1, 1, none⟩ (.bool false) (by rw [k4]; rfl)
  have hbf := (hB1.out.grown hg1 hB1.out.size (fun k e => by cases e; omega)).grown hg2 (by have := hB1.out.size; simp; omega) (fun k e => by cases e; omega)
  generalize World.setCell (World.setCell w1 ⟨w.heap.size + 1, 0, none⟩ (.slice none 0 0)) ⟨w.heap.size + 1, 1, none⟩ (.bool false) = WF at *
  refine ⟨rfl, .tuple #[.agg #[.slice none 0 0, .bool false], .int .i64 er], ?_, rfl, hbf⟩
  simp [results, Try.f32, go_sem, z0, z1]
end Go.Proofs.Ytggkhddficmnfaa
