/-
  climates and its iterator.
-/
import Derived.Maps.OwnIn
import Derived.Test.YtlocdkjnefmiaaaGSteps
namespace Go.Proofs.Ytlocdkjnefmiaaa
open Go.RowKit Go.Shelf
set_option linter.unusedVariables false
set_option linter.unusedSimpArgs false
attribute [local go_sem] Oper.semAt_some

/-- What the iterator has been given: an oven, temperatures, whether it heated, minutes. -/
structure Given (W : World) (bO bT bH bM : Nat) (o : Ov) (lo hi : Int) (h : Bool) (M : Int) : Prop where
  oven : OAt W bO o
  lo : W.cell? ⟨bT, 0, none⟩ = some (.int .i64 lo)
  hi : W.cell? ⟨bT, 1, none⟩ = some (.int .i64 hi)
  heats : W.cell? ⟨bH, 0, none⟩ = some (.bool h)
  minutes : W.cell? ⟨bM, 0, none⟩ = some (.int .i64 M)
theorem Given.lt {W : World} {bO bT bH bM : Nat} {o : Ov} {lo hi M : Int} {h : Bool} (g : Given W bO bT bH bM o lo hi h M) : bO < W.heap.size ∧ bT < W.heap.size ∧ bH < W.heap.size ∧ bM < W.heap.size :=
  ⟨g.oven.lt, by have := World.block_lt_of_cell? _ _ g.lo; simpa using this, by have := World.block_lt_of_cell? _ _ g.heats; simpa using this, by have := World.block_lt_of_cell? _ _ g.minutes; simpa using this⟩
theorem Given.same {W W' : World} {bO bT bH bM : Nat} {o : Ov} {lo hi M : Int} {h : Bool} (g : Given W bO bT bH bM o lo hi h M) (e : ∀ k, k = bO ∨ k = bT ∨ k = bH ∨ k = bM → W'.heap[k]? = W.heap[k]?) : Given W' bO bT bH bM o lo hi h M :=
  ⟨g.oven.same (e _ (by simp)), (World.cell?_of_block (a := ⟨bT, 0, none⟩) (e _ (by simp))).trans g.lo, (World.cell?_of_block (a := ⟨bT, 1, none⟩) (e _ (by simp))).trans g.hi, (World.cell?_of_block (a := ⟨bH, 0, none⟩) (e _ (by simp))).trans g.heats, (World.cell?_of_block (a := ⟨bM, 0, none⟩) (e _ (by simp))).trans g.minutes⟩
theorem Given.grown {W W' : World} {bO bT bH bM : Nat} {o : Ov} {lo hi M : Int} {h : Bool} {row : Option Nat} (g : Given W bO bT bH bM o lo hi h M) (hg : W.grownBy W' row) (hr : ∀ r, row = some r → r ≠ bO ∧ r ≠ bT ∧ r ≠ bH ∧ r ≠ bM) : Given W' bO bT bH bM o lo hi h M :=
  g.same fun k hk => by
    obtain ⟨l1, l2, l3, l4⟩ := g.lt
    refine hg.block k (by rcases hk with rfl | rfl | rfl | rfl <;> assumption) (fun e => ?_)
    obtain ⟨n1, n2, n3, n4⟩ := hr k e.symm
    rcases hk with rfl | rfl | rfl | rfl <;> contradiction
theorem not_loop_of_cell {W : World} {b o : Nat} {v : Value} (h : W.cell? ⟨b, o, none⟩ = some v) : ∃ x, W.heap[b]? = some x ∧ ∀ r, x ≠ .loop r := by
  unfold World.cell? at h
  cases e : W.heap[b]? with
  | none => simp [e] at h
  | some x => exact ⟨x, rfl, fun r e' => by subst e'; simp [e] at h⟩
theorem Given.kept {X : Nat → Prop} {W W' : World} {bO bT bH bM : Nat} {o : Ov} {lo hi M : Int} {h : Bool} (g : Given W bO bT bH bM o lo hi h M) (hk : Kept X W W') (hx : ∀ k, X k → k ≠ bO ∧ k ≠ bT ∧ k ≠ bH ∧ k ≠ bM) : Given W' bO bT bH bM o lo hi h M :=
  g.same fun k e => by
    have hn : ¬ X k := fun x => by obtain ⟨n1, n2, n3, n4⟩ := hx k x; rcases e with e | e | e | e <;> contradiction
    have go : ∀ {oo : Nat} {v : Value}, W.cell? ⟨k, oo, none⟩ = some v → W'.heap[k]? = W.heap[k]? := fun hc => by
      obtain ⟨x, h1, h2⟩ := not_loop_of_cell hc
      rw [h1]; exact hk.same k x h1 h2 hn
    rcases e with rfl | rfl | rfl | rfl
    · exact go g.oven.1.1
    · exact go g.lo
    · exact go g.heats
    · exact go g.minutes
/-- Between two steps of the iterator: what it has met, what it leans on, and its marks. -/
structure CInv (s bO bT bH bM : Nat) (o : Ov) (lo hi : Int) (h : Bool) (M : Int) (v : Value) (st : Cls) (Ds : List Nat) (W : World) : Prop where
  met : MetAt W s (s + 1) v st
  box : Boxed W (s + 1 + 1) 137 (.map (some (s + 1)))
  oven : OAt W s o
  given : Given W bO bT bH bM o lo hi h M
  marks : Marks s Ds W
  size : s + 3 ≤ W.heap.size
theorem CInv.kept {s bO bT bH bM : Nat} {o : Ov} {lo hi M : Int} {h : Bool} {v : Value} {st : Cls} {Ds : List Nat} {W W' : World} {X : Nat → Prop} (c : CInv s bO bT bH bM o lo hi h M v st Ds W) (hk : Kept X W W') (hx : ∀ k, X k → k < s ∧ k ≠ bO ∧ k ≠ bT ∧ k ≠ bH ∧ k ≠ bM) : CInv s bO bT bH bM o lo hi h M v st Ds W' where
  met := c.met.kept hk (fun x => by have := (hx _ x).1; omega) (fun k x => (hx k x).1)
  box := hk.boxed (fun x => by have := (hx _ x).1; omega) c.box
  oven := c.oven.same (by
    obtain ⟨x, h1, h2⟩ := not_loop_of_cell c.oven.1.1
    rw [h1]; exact hk.same s x h1 h2 (fun x => by have := (hx _ x).1; omega))
  given := c.given.kept hk (fun k x => (hx k x).2)
  marks := c.marks.kept hk (fun k x => (hx k x).1)
  size := Nat.le_trans c.size hk.size
theorem CInv.below {s bO bT bH bM : Nat} {o : Ov} {lo hi M : Int} {h : Bool} {v : Value} {st : Cls} {Ds : List Nat} {W W' : World} (c : CInv s bO bT bH bM o lo hi h M v st Ds W) (hb : Below W.heap.size W W') : CInv s bO bT bH bM o lo hi h M v st Ds W' :=
  c.kept (X := fun _ => False) (Kept.of_below hb) (fun k x => x.elim)
abbrev climEnc (x : Nat × Cl) : Array Value := #[.int .i64 (x.1 : Int), Cl.val x.2]

set_option maxRecDepth 100000 in
set_option maxHeartbeats 6000000 in
theorem climates1_in (o : Ov) (ho : o.Ok) (lo hi : Int) (h : Bool) (M K : Nat) (hlo : -500 ≤ lo) (hhi : hi ≤ 1000) (hM : M ≤ 200) (hK : lo + (K : Int) = hi + 1) (X : Nat → Prop) (W : World) (n l bO bT bH bM : Nat) (hn : 3 ≤ n) (J Jx : List (Nat × Cl) → World → Prop)
    (N : Nat) (hN : N = (yieldsTo o (beginL lo h K) (M + 1)).length)
    (hY : ∀ pre x V, J pre V → pre.length < N → YieldAt Fence.wide (n - 1) Try.prog l (climEnc x) V fun e W' =>
      (e = .returned (.bool true) ∧ J (pre ++ [x]) W' ∧ Kept X V W') ∨ (e = .returned (.bool false) ∧ Jx (pre ++ [x]) W' ∧ Rest W.heap.size V W'))
    (hX : ∀ k, X k → k < W.heap.size ∧ k ≠ bO ∧ k ≠ bT ∧ k ≠ bH ∧ k ≠ bM) (hJ : OwnFrom W.heap.size J) (hJx : OwnFrom W.heap.size Jx) (hg : Given W bO bT bH bM o lo hi h M) (h0 : J [] W) :
    CallsIn Fence.wide n Try.prog 97 #[.func (.yield l) #[] #[], .pointer (some ⟨bO, 0, none⟩), .pointer (some ⟨bT, 0, none⟩), .pointer (some ⟨bH, 0, none⟩), .pointer (some ⟨bM, 0, none⟩)] W fun e W' => (∃ v, e = .returned v) ∧
      ((∃ ys, ys = yieldsTo o (beginL lo h K) (M + 1) ∧ J ys W') ∨ (∃ pre, (∃ ys, ys = yieldsTo o (beginL lo h K) (M + 1) ∧ pre <+: ys) ∧ Jx pre W')) := by
  have hmm := @run_makeMap Try.prog
  have hn1 : 1 ≤ n := by omega
  have HY := hid hY
  have HX := hid hX
  have HJ := hid hJ
  have HJX := hid hJx
  have HG := hid hg
  obtain ⟨⟨⟨a0, a1, a2⟩, a3, a4, a5⟩, g1, g2, g3, g4⟩ := hg
  clear hY hX hJ hJx
  obtain ⟨W3, hW3⟩ : ∃ W3, ((W.alloc (.cells #[.int .i64 o.lo, .int .i64 o.hi, .int .i64 o.warm.1, .int .i64 o.warm.2, .int .i64 o.cool.1, .int .i64 o.cool.2] 50)).alloc (.map #[] 0)).alloc (.cells #[.map (some (W.heap.size + 1))] 137) = W3 := ⟨_, rfl⟩
  have hb3 : Below W.heap.size W W3 := by rw [← hW3]; exact b_alloc (b_alloc (b_alloc (Below.refl _ _) _) _) _
  have hz3 : W3.heap.size = W.heap.size + 3 := by rw [← hW3]; simp
  have ho3 : OAt W3 W.heap.size o := by rw [← hW3]; exact ((OAt.new W o).call (b_alloc (Below.refl _ _) _)).call (b_alloc (Below.refl _ _) _)
  have hs3 : SetAt W3 116 (W.heap.size + 1) 0 (fun _ _ => false) := by
    rw [← hW3]
    have := SetAt.made (W.alloc (.cells #[.int .i64 o.lo, .int .i64 o.hi, .int .i64 o.warm.1, .int .i64 o.warm.2, .int .i64 o.cool.1, .int .i64 o.cool.2] 50)) 116
    rw [World.size_alloc] at this
    exact this.alloc _
  have hm3 : Boxed W3 (W.heap.size + 1 + 1) 137 (.map (some (W.heap.size + 1))) := by
    rw [← hW3]
    have := Boxed.new ((W.alloc (.cells #[.int .i64 o.lo, .int .i64 o.hi, .int .i64 o.warm.1, .int .i64 o.warm.2, .int .i64 o.cool.1, .int .i64 o.cool.2] 50)).alloc (.map #[] 0)) 137 (.map (some (W.heap.size + 1)))
    simpa using this
  have hg3 : Given W3 bO bT bH bM o lo hi h M := HG.out.same fun k hk => hb3.block k (by have := HG.out.lt; rcases hk with rfl | rfl | rfl | rfl <;> omega)
  have z1 := hg3.lo
  have HW3 := hid hW3
  rw [← hW3] at z1
  clear hW3
  refine callsIn_of_wp_marks Try.func97 rfl trivial ?_ rfl
  simp only [Try.ntmps97, List.size_toArray, List.length_cons, List.length_nil, Nat.reduceAdd, Nat.reduceSub, Array.replicate_succ, Array.replicate_zero, List.push_toArray, List.append_toArray, List.nil_append, List.cons_append]
  gi_wp2_with (refine ⟨trivial, ?_⟩; gi_at_call 98; refine (inWide (minuteOf_any o _)).mono ?_; rintro e w1 ⟨rfl, rfl⟩)
  rw [HW3.out]
  have HB3 := hid hb3
  have HO3 := hid ho3
  have HS3 := hid hs3
  have HM3 := hid hm3
  have HG3 := hid hg3
  have HZ3 := hid hz3
  have hbh : (Lit.int .i64 0).wf = true := by decide
  clear a0 a1 a2 a3 a4 a5 g1 g2 g3 g4 z1 hb3 ho3 hs3 hm3 hg3 hz3
  gi_loopw [8, 9] (fun v t wr => ∃ k : Nat, k ≤ K ∧ t = .int .i64 (lo + (k : Int)) ∧ MetAt wr W.heap.size (W.heap.size + 1) v (beginL lo h k) ∧
      Boxed wr (W.heap.size + 1 + 1) 137 (.map (some (W.heap.size + 1))) ∧ OAt wr W.heap.size o ∧ Below W.heap.size W wr ∧ W.heap.size + 3 ≤ wr.heap.size ∧ (∀ g, v.ownBlock = some g → W.heap.size + 3 ≤ g)) (fun _ t _ => (hi + 1 - intOf t).toNat)
  case atStart => exact ⟨0, Nat.zero_le _, by simp, ⟨⟨by simp [beginL, meetL, spread, cellsC], .inl ⟨rfl, by simp [beginL, meetL, spread]⟩⟩, HS3.out.congr (fun s c => by simp [inL, beginL, meetL, spread]), by simp [Value.ownBlock]⟩, HM3.out, HO3.out, HB3.out, by rw [HZ3.out]; exact Nat.le_refl _, by simp [Value.ownBlock]⟩
  case round =>
    obtain ⟨k, hk, rfl, hmt, hmet, hov, hbr, hsz, hmb⟩ := hrel
    have HMB := hid hmb
    clear hmb
    have hgr : Given wr bO bT bH bM o lo hi h M := HG.out.same fun k hk => hbr.block k (by have := HG.out.lt; rcases hk with rfl | rfl | rfl | rfl <;> omega)
    have z2 := hgr.hi
    have z3 := hgr.heats
    have z4 := hmet.cell
    have HGR := hid hgr
    have HMT := hid hmt
    have HMET := hid hmet
    have HOV := hid hov
    have HBR := hid hbr
    clear hgr hmt hmet hov hbr
    by_cases hlt : k < K
    · have hle : lo + (k : Int) ≤ hi := by omega
      have hgood := hid (Good.begin (lo := lo) (h := h) (k := k) (by omega) (by omega))
      have hsu := hid (beginL_succ lo h k)
      have hmm2 := fun W' hs => meet_any u8 (beginL lo h k) (W.heap.size + 1) W.heap.size (lo + (k : Int), h) (WalkArith.wf_i64 (by dsimp only; omega)) W' hs (by have := hgood.out.len; have := hgood.out.few; omega) (by have := hgood.out.few; omega)
      have HME := hid hmm2
      clear hmm2
      gi_wp2_with (refine ⟨trivial, ?_⟩; gi_at_call 99; refine (inWide (HME.out _ HMT.out HBR.out.size)).mono ?_; rintro e w4 ⟨v4, rfl, hmt4, htu4, hor4⟩)
      go_roundw
      case rel =>
        have hb4 : Below W.heap.size W w4 := ⟨htu4.os.trans HBR.out.os, htu4.tape.trans HBR.out.tape, htu4.output.trans HBR.out.output, Nat.le_trans HBR.out.size htu4.size, fun j hj => (htu4.block j (by omega) (by omega) (fun e => by obtain ⟨_, _, _, h9⟩ := HMT.out.cells e.symm; omega)).trans (HBR.out.block j hj)⟩
        refine ⟨k + 1, by omega, by go_num, by rw [hsu.out]; exact hmt4, ?_, ?_, hb4, by have := htu4.size; omega, fun g e => by
          rcases hor4 with e' | ⟨g', e', h9⟩
          · exact HMB.out g (e' ▸ e)
          · rw [e'] at e; cases e; omega⟩
        · refine boxed_same HMET.out (htu4.block _ HMET.out.lt (by omega) (fun e => ?_))
          obtain ⟨x, h1, h2, h3⟩ := HMT.out.cells e.symm
          have h4 := HMB.out _ e.symm
          omega
        · refine HOV.out.same (htu4.block _ HOV.out.lt (by omega) (fun e => ?_))
          have h4 := HMB.out _ e.symm
          omega
      case measure => simp [intOf]; omega
    · obtain rfl : k = K := by omega
      have hle : ¬ lo + (k : Int) ≤ hi := by omega
      have hci : CInv W.heap.size bO bT bH bM o lo hi h M u8 (beginL lo h k) [] wr := ⟨HMT.out, HMET.out, HOV.out, HGR.out, ⟨by simp, by simp⟩, hsz⟩
      have hj0 : J (yieldsTo o (beginL lo h k) 0) wr := HJ.out _ _ _ none h0 (grown_of_below HBR.out) (by simp)
      have HCI := hid hci
      have HJ0 := hid hj0
      have hgd := hid (Good.begin (lo := lo) (h := h) (k := k) (by omega) (by omega))
      obtain ⟨s0, hs0⟩ : ∃ s0, beginL lo h k = s0 := ⟨_, rfl⟩
      rw [hs0] at HCI HJ0 hgd hN
      have HS0 := hid hs0
      clear hci hj0 HMT HMET HOV HGR HBR HG3 HM3 HS3 HO3 HB3 HZ3 HW3 z3 z4 hs0
      gi_wp2
      clear z2
      refine wpIn_loop (fun a' wr => ∃ (u8 u9 u10 u11 u12 u13 u14 u15 u16 u17 u18 u19 u20 u21 u22 u23 u24 u25 u26 u27 u28 u29 u30 u31 u32 u33 u34 u35 u36 u37 u38 u39 u40 u41 u42 u43 u44 u45 u46 u47 u48 u49 u50 u51 u52 u53 u54 u55 u56 u57 u58 u59 u60 u61 u62 u63 u64 u65 u66 : Value) (ds : List Deferred), (∃ (k : Nat) (Ds : List Nat), k ≤ M + 1 ∧ u10 = .int .i64 k ∧ ds = marks Ds ∧ CInv W.heap.size bO bT bH bM o lo hi h M u8 (stateAt o s0 k) Ds wr ∧ J (yieldsTo o s0 k) wr) ∧
        a' = { tmps := #[.func (.yield l) #[] #[], .pointer (some ⟨bO, 0, none⟩), .pointer (some ⟨bT, 0, none⟩), .pointer (some ⟨bH, 0, none⟩), .pointer (some ⟨bM, 0, none⟩), undef, .func (.func 102) #[] #[.pointer (some ⟨W.heap.size, 0, none⟩)], .pointer (some ⟨W.heap.size + 1 + 1, 0, none⟩), u8, u9, u10, u11, u12, u13, u14, u15, u16, u17, u18, u19, u20, u21, u22, u23, u24, u25, u26, u27, u28, u29, u30, u31, u32, u33, u34, u35, u36, u37, u38, u39, u40, u41, u42, u43, u44, u45, u46, u47, u48, u49, u50, u51, u52, u53, u54, u55, u56, u57, u58, u59, u60, u61, u62, u63, u64, u65, u66], defers := ds }) (fun a' _ => M + 1 - (intOf (a'.tmps.getD 10 undef)).toNat) ?_ ?_
      · (repeat apply Exists.intro); exact ⟨⟨0, [], by omega, rfl, rfl, HCI.out, HJ0.out⟩, rfl⟩
      · intro a' wr hinv
        obtain ⟨u8, u9, u10, u11, u12, u13, u14, u15, u16, u17, u18, u19, u20, u21, u22, u23, u24, u25, u26, u27, u28, u29, u30, u31, u32, u33, u34, u35, u36, u37, u38, u39, u40, u41, u42, u43, u44, u45, u46, u47, u48, u49, u50, u51, u52, u53, u54, u55, u56, u57, u58, u59, u60, u61, u62, u63, u64, u65, u66, ds, hrel, rfl⟩ := hinv
        dsimp only
        obtain ⟨q, Ds, hq, rfl, rfl, hci, hjq⟩ := hrel
        have HC := hid hci
        have HJQ := hid hjq
        have hz1 := hci.given.minutes
        have HGK := hid (hgd.out.at_ ho q)
        clear HCI HJ0 hci hjq
        by_cases hlt : q < M + 1
        · have hle : (q : Int) ≤ (M : Int) := by omega
          have HST := hid (show stateAt o s0 (q + 1) = nextL o (stateAt o s0 q) from rfl)
          have HYT := hid (yieldsTo_succ o s0 q)
          obtain ⟨st, hst⟩ : ∃ st, stateAt o s0 q = st := ⟨_, rfl⟩
          rw [hst] at HC HGK HST HYT
          obtain ⟨a, c, rfl, hsl⟩ := HC.out.met.slice
          gi_wp2
          obtain ⟨P, hP⟩ : ∃ P, yieldsTo o s0 q = P := ⟨_, rfl⟩
          rw [hP] at HJQ HYT
          have HPL := hid (show (P ++ st.1.map fun c => (q, c)) <+: yieldsTo o s0 (M + 1) by
            have e := yieldsTo_pre o s0 (q + 1) (M - q)
            rw [show q + 1 + (M - q) = M + 1 by omega, HYT.out] at e
            exact e)
          clear hP
          have hfew : st.1.length ≤ 3402 := by have := HGK.out.len; have := HGK.out.few; omega
          gi_loopw [41] (fun i wq => ∃ j : Nat, j ≤ st.1.length ∧ i = .int .i64 (j : Int) ∧ CInv W.heap.size bO bT bH bM o lo hi h M (.slice a st.1.length c) st Ds wq ∧ J (P ++ (st.1.take j).map fun c => (q, c)) wq) (fun i _ => st.1.length - (intOf i).toNat)
          case atStart => exact ⟨0, Nat.zero_le _, rfl, HC.out, by simpa using HJQ.out⟩
          case round =>
            obtain ⟨j, hj, rfl, hcj, hjj⟩ := hrel
            have HCJ := hid hcj
            have HJJ := hid hjj
            obtain ⟨a', c', e', hsl'⟩ := hcj.met.slice
            simp only [Value.slice.injEq] at e'
            obtain ⟨rfl, _, rfl⟩ := e'
            clear hcj hjj hsl
            by_cases hjl : j < st.1.length
            · obtain ⟨g, rfl, hc1, hc2⟩ := hsl' j hjl
              clear hsl'
              have htk : st.1.take (j + 1) = st.1.take j ++ [st.1[j]] := by rw [List.take_add_one, List.getElem?_eq_getElem hjl]; rfl
              have hpre : ((P ++ (st.1.take j).map fun c => (q, c)) ++ [(q, st.1[j])]) <+: yieldsTo o s0 (M + 1) := by
                refine List.IsPrefix.trans ?_ HPL.out
                rw [List.append_assoc, List.prefix_append_right_inj]
                refine List.IsPrefix.trans (l₂ := (st.1.take (j + 1)).map fun c => (q, c)) ?_ ?_
                · rw [htk, List.map_append]; exact List.prefix_refl _
                · exact (List.take_prefix _ _).map _
              have hln : (P ++ (st.1.take j).map fun c => (q, c)).length < N := by
                have := hpre.length_le
                rw [hN]
                simp only [List.length_append, List.length_cons, List.length_nil] at this ⊢
                omega
              have HTK := hid htk
              have HPRE := hid hpre
              obtain ⟨⟨t, b⟩, hx⟩ : ∃ x, st.1[j] = x := ⟨_, rfl⟩
              rw [hx] at hc1 hc2 HTK HPRE
              simp only at hc1 hc2
              obtain ⟨fn, tmps, assign, body, hy, hR⟩ := HY.out (P ++ (st.1.take j).map fun c => (q, c)) (q, (t, b)) (wr.alloc (.cells #[.int .i64 t, .bool b] 116)) (HJ.out _ _ _ none HJJ.out (World.grownBy_alloc _ _ none) (by simp)) hln
              have HR := hid hR
              clear htk hpre hx hR
              gi_wp2
              refine HR.out.mono ?_
              rintro e W3 (⟨rfl, hJ3, hk3⟩ | ⟨rfl, hJx3, hr3⟩)
              · gi_wp2
                go_roundw
                case rel => exact ⟨j + 1, by omega, by go_num, (HCJ.out.below (b_alloc (Below.refl _ _) _)).kept hk3 (fun k x => HX.out k x), by rw [HTK.out, List.map_append, ← List.append_assoc]; exact hJ3⟩
                case measure => simp [intOf]; omega
              · gi_wp2
                refine leaves_marks (s := W.heap.size) (fun V => Jx ((P ++ (st.1.take j).map fun c => (q, c)) ++ [(q, (t, b))]) V) (fun V D hD h0 hq => HJX.out.putObj _ hq hD h0 rfl) Ds W3 ?_ hJx3 (fun W' hq => ⟨_, results_none rfl _ _ _, ⟨_, rfl⟩, .inr ⟨_, ⟨_, rfl, by rw [HS0.out]; exact HPRE.out⟩, hq⟩⟩)
                have hmk := (HCJ.out.below (b_alloc (Below.refl _ _) (.cells #[.int .i64 t, .bool b] 116))).marks
                exact ⟨hmk.1, fun D hD => ⟨(hmk.2 D hD).1, hr3.same D _ (hmk.2 D hD).1 (hmk.2 D hD).2 rfl⟩⟩
            · obtain rfl : j = st.1.length := by omega
              have hjn : J (P ++ st.1.map fun c => (q, c)) wr := by have := HJJ.out; rw [List.take_length] at this; exact this
              rw [← HYT.out] at hjn
              have HJN := hid hjn
              clear hjn HJJ HC HJQ
              obtain ⟨nb, hnb⟩ : ∃ nb, wr.heap.size = nb := ⟨_, rfl⟩
              have hw1 := Boxed.new wr 138 (.slice none 0 0)
              have hb1 := b_alloc (Below.refl wr.heap.size wr) (.cells #[.slice none 0 0] 138)
              have hx1 : MetAt (wr.alloc (.cells #[.slice none 0 0] 138)) W.heap.size (W.heap.size + 1) (.slice none 0 0) (partL o st 0) := by
                rw [partL_zero]
                exact ⟨⟨by simp [cellsC], .inl ⟨rfl, rfl⟩⟩, HCJ.out.met.set.below hb1, by simp [Value.ownBlock]⟩
              gi_wp2
              rw [hnb] at hw1 hb1
              have HX1 := hid hx1
              have HW1 := hid hw1
              have HB1 := hid hb1
              have hzn : W.heap.size + 3 ≤ nb := by rw [← hnb]; exact HCJ.out.size
              clear hx1 hw1 hb1
              refine wpIn_loop (fun a' wq => ∃ (u9 u11 u12 u14 u15 u16 u17 u18 u19 u20 u21 u22 u23 u24 u25 u26 u27 u28 u29 u30 u31 u32 u33 u34 u35 u36 u37 u38 u39 u40 u41 u42 u43 u44 u45 u46 u47 u48 u49 u50 u53 u54 u55 u56 u57 u58 u59 u60 u61 u62 u63 u64 u65 u66 : Value) (ds : List Deferred), (∃ (j : Nat) (Es : List Nat) (nv : Value), j ≤ st.1.length ∧ u53 = .int .i64 (j : Int) ∧ ds = marks Es ∧ Marks W.heap.size Es wq ∧ Boxed wq nb 138 nv ∧ MetAt wq W.heap.size (W.heap.size + 1) nv (partL o st j) ∧
                  (∀ g, nv.ownBlock = some g → nb < g) ∧ wr.grownBy wq (some (W.heap.size + 1))) ∧ a' = { tmps := #[.func (.yield l) #[] #[], .pointer (some ⟨bO, 0, none⟩), .pointer (some ⟨bT, 0, none⟩), .pointer (some ⟨bH, 0, none⟩), .pointer (some ⟨bM, 0, none⟩), undef, .func (.func 102) #[] #[.pointer (some ⟨W.heap.size, 0, none⟩)], .pointer (some ⟨W.heap.size + 1 + 1, 0, none⟩), .slice a st.1.length c, u9, .int .i64 (q : Int), u11, u12, .pointer (some ⟨nb, 0, none⟩), u14, u15, u16, u17, u18, u19, u20, u21, u22, u23, u24, u25, u26, u27, u28, u29, u30, u31, u32, u33, u34, u35, u36, u37, u38, u39, u40, u41, u42, u43, u44, u45, u46, u47, u48, u49, u50, .slice a st.1.length c, .int .i64 (st.1.length : Int), u53, u54, u55, u56, u57, u58, u59, u60, u61, u62, u63, u64, u65, u66], defers := ds }) (fun a' _ => st.1.length - (intOf (a'.tmps.getD 53 undef)).toNat) ?_ ?_
              · (repeat apply Exists.intro)
                exact ⟨⟨0, Ds, _, Nat.zero_le _, rfl, rfl, (HCJ.out.below (b_alloc (Below.refl _ _) _)).marks, HW1.out, HX1.out, by simp [Value.ownBlock], World.grownBy_alloc _ _ _⟩, rfl⟩
              · intro a'' wq hinv
                obtain ⟨u9, u11, u12, u14, u15, u16, u17, u18, u19, u20, u21, u22, u23, u24, u25, u26, u27, u28, u29, u30, u31, u32, u33, u34, u35, u36, u37, u38, u39, u40, u41, u42, u43, u44, u45, u46, u47, u48, u49, u50, u53, u54, u55, u56, u57, u58, u59, u60, u61, u62, u63, u64, u65, u66, ds, hrel, rfl⟩ := hinv
                dsimp only
                obtain ⟨j, Es, nv, hj, rfl, rfl, hmk, hbx, hmt, hnb9, hgw⟩ := hrel
                clear HX1 HW1 HB1
                have HMK := hid hmk
                have HBX := hid hbx
                have HMT := hid hmt
                have HNB := hid hnb9
                have HGW := hid hgw
                have hzq : nb < wq.heap.size := hbx.lt
                clear hmk hbx hmt hnb9 hgw
                by_cases hjl : j < st.1.length
                · obtain ⟨g, rfl, hc1, hc2⟩ := hsl' j hjl
                  have HPS := hid (partL_succ o st j hjl)
                  have hbd := hid (HGK.out.bd _ (HGK.out.sub _ (List.getElem_mem hjl)))
                  obtain ⟨⟨t, b⟩, hx⟩ : ∃ x, st.1[j] = x := ⟨_, rfl⟩
                  rw [hx] at hc1 hc2 HPS hbd
                  simp only at hc1 hc2
                  have hgm : g ≠ W.heap.size + 1 := fun e => HCJ.out.met.apart (by simp [Value.ownBlock, e])
                  have hgl : g < wr.heap.size := by have := World.block_lt_of_cell? _ _ hc1; simpa using this
                  have hgb := HGW.out.block g hgl (by simpa using hgm)
                  have d1 := (World.cell?_of_block (a := ⟨g, j * 2, none⟩) hgb).trans hc1
                  have d2 := (World.cell?_of_block (a := ⟨g, j * 2 + 1, none⟩) hgb).trans hc2
                  have hov := HCJ.out.oven.same (HGW.out.block _ HCJ.out.oven.lt (by simp))
                  have hM1 := minute1_any o ho (t, b) (by have := hbd.out; dsimp only at this ⊢; omega) W.heap.size (wq.alloc (.cells #[.int .i64 t, .bool b] 116)) (hov.call (b_alloc (Below.refl _ _) _))
                  have HM1 := hid hM1
                  clear hx hc1 hc2 hgb hov hM1
                  gi_wp2_with (refine ⟨trivial, ?_⟩; gi_at_call 102; refine (inWide HM1.out).mono ?_; rintro e w5 ⟨bl, bh, bt, rfl, ⟨x1, x2, x3⟩, ⟨y1, y2, y3⟩, hb5⟩)
                  have hz5 := hb5.size
                  rw [World.size_alloc] at y1 y2 y3
                  have hz5' : wq.heap.size + 1 ≤ w5.heap.size := by rw [World.size_alloc] at hz5; exact hz5
                  have hzw : nb ≤ wq.heap.size := by have := HGW.out.size; omega
                  have hbq : Below wq.heap.size wq w5 := (b_alloc (Below.refl _ _) (.cells #[.int .i64 t, .bool b] 116)).trans (hb5.mono (by simp))
                  have hEs : ∀ D ∈ Es, D < w5.heap.size := fun D hD => by have := (Array.getElem?_eq_some_iff.1 (HMK.out.2 D hD).2).1; omega
                  have hstart : StepI W.heap.size nb bl bh bt wr w5 Es (partL o st j) [] w5 := by
                    refine ⟨⟨nv, boxed_call HBX.out hbq, HMT.out.below hbq, fun g e => ?_⟩, boxed_call (HCJ.out.box.kept HGW.out (by simp)) hbq, ?_, HMK.out.grown (grown_of_below hbq) (by simp), Nat.le_refl _⟩
                    · have k1 := HNB.out g e
                      have k2 := (HMT.out.row.lt g e).2
                      omega
                    · exact ⟨hbq.os.trans HGW.out.os, hbq.tape.trans HGW.out.tape, hbq.output.trans HGW.out.output, Nat.le_trans HGW.out.size hbq.size, fun k hk hne => (hbq.block k (by have := HGW.out.size; omega)).trans (HGW.out.block k hk hne)⟩
                  have hlf := x1.lt
                  have hlh := x2.lt
                  have hlt5 := x3.lt
                  have hmany := hid (many_few ho (t, b))
                  have hgpart := hid (HGK.out.part ho j)
                  have hown := stepI_own (s := W.heap.size) (nb := nb) (bl := bl) (bh := bh) (bt := bt) (wr := wr) (w5 := w5) (Es := Es) (cur := partL o st j) (by omega) (by omega) hzn hEs
                  have HOWN := hid hown
                  clear hown
                  refine range_box (n := n) (fun (x : Cw) B ts => (ts.setIfInBounds 60 (Cl.val x.1)).setIfInBounds 16 (.pointer (some ⟨B, 0, none⟩))) (fun x => .cells #[.int .i64 x.1.1, .bool x.1.2] 116) (fun _ => rfl) rfl (by omega) (gf := 103) (lb := #[.pointer (some ⟨bl, 0, none⟩), .pointer (some ⟨bh, 0, none⟩), .pointer (some ⟨bt, 0, none⟩)]) rfl trivial (enters_of Try.func103 (by kernel_rfl) rfl)
                    (minute11_seq (lowAt o (t, b)) (highAt o (t, b)) (heatsAt o (t, b)) (manyAt o (t, b)) (low_bd ho hbd.out).1 (low_bd ho hbd.out).2 rfl (n - 1) bl bh bt (by omega) w5 x1 x2 x3) (fun _ _ h => h) (fun h k => h.trans k)
                    (fun V r o' hr => ⟨World.putObj_heap_other (by omega), World.putObj_heap_other (by omega), World.putObj_heap_other (by omega)⟩) (Below.refl _ _) (fun _ => rfl)
                    (StepI W.heap.size nb bl bh bt wr w5 Es (partL o st j)) (fun _ _ _ => False) HOWN.out (fun _ _ _ _ _ h _ _ => h) hstart ?assign ?body ?done ?stop
                  case assign =>
                    intro l1 pre x V K hi hK
                    have HK := hid hK
                    have hzv := hi.size
                    clear hK
                    gi_wp2
                    refine HK.out _ _ ((KeepsOthers.alloc _ _).from _) ⟨Below.heap_alloc _ _ _ (by omega), Below.heap_alloc _ _ _ (by omega), Below.heap_alloc _ _ _ (by omega)⟩ (HOWN.out.alloc _ hi) hzv (World.alloc_heap_new _ _)
                  case body =>
                    rintro l1 pre ⟨⟨dt, db⟩, hw⟩ B V hl1 ⟨⟨nv', n1, n2, n3⟩, k2, k3, k4, k5⟩ hB hobj hlen
                    have q0 : V.cell? ⟨B, 0, none⟩ = some (.int .i64 dt) := by simp [World.cell?, hobj]
                    have q1 : V.cell? ⟨B, 1, none⟩ = some (.bool db) := by simp [World.cell?, hobj]
                    have q2 := n1.cell
                    have q3 := k2.cell
                    have hlen' : pre.length ≤ 101 := by have := hmany.out; omega
                    have hme := meet_any nv' (meetL (partL o st j) (pre.map Subtype.val)) (W.heap.size + 1) W.heap.size (dt, db) hw V n2 (by have h8 := (meetL_grow (pre.map Subtype.val) (partL o st j)).1; rw [List.length_map] at h8; have := hgpart.out.len; have := hgpart.out.few; omega) (by have h8 := (meetL_grow (pre.map Subtype.val) (partL o st j)).2; rw [List.length_map] at h8; have := hgpart.out.few; omega) (by have := HCJ.out.size; omega)
                    have HME2 := hid hme
                    have N1 := hid n1
                    have N3 := hid n3
                    have HN := hid (fun w6 v6 a b c => step_next (x := (⟨(dt, db), hw⟩ : Cw)) (w6 := w6) (v6 := v6) hnb hzn k5 (by omega) ⟨⟨by omega, by omega, by omega⟩, hlf, hlh, hlt5⟩ n1 n2 n3 k2 k3 k4 a b c)
                    clear hme n2 n3 k2 k3 k4 n1 hobj
                    have hn3 : 1 ≤ n - 1 - 1 := by omega
                    gi_wp2_with (refine ⟨trivial, ?_⟩; gi_at_call 99; refine (inWideRound l1 HME2.out).mono ?_; rintro e w6 ⟨v6, rfl, m1, m2, m3⟩; obtain ⟨a6, c6, rfl, _⟩ := m1.slice; have n6 := boxed_same N1.out (m2.block nb N1.out.lt (by omega) (fun e => by have := (N3.out nb e.symm).1; omega)); have n7 := n6.cell; have n8 := n6.frozen; have hx6 := HN.out w6 _ m1 m2 m3; have HX6 := hid hx6; clear hx6 m1 m2 m3)
                    exact HX6.out
                  case done =>
                    rintro D xs V hD hxs ⟨⟨nv', n1, n2, n3⟩, k2, k3, k4, k5⟩ hdef
                    have hq0 := HPS.out
                    rw [show stepsOf o (t, b) = xs.map Subtype.val from hxs.symm] at hq0
                    rw [← hq0] at n2
                    have HN2 := hid n2
                    have HN1 := hid n1
                    clear n2 n1 hxs hq0
                    gi_wp2
                    refine ⟨⟨_, _, _, _, _, _, _, _, _, _, _, _, _, _, _, _, _, _, _, _, _, _, _, _, _, _, _, _, _, _, _, _, _, _, _, _, _, _, _, _, _, _, _, _, _, _, _, _, _, _, _, _, _, _, _, ⟨j + 1, D :: Es, nv', by omega, by go_num, rfl, ⟨List.nodup_cons.2 ⟨fun hD' => by have := hEs D hD'; omega, HMK.out.1⟩, fun E hE => (List.mem_cons.1 hE).elim (fun e => by subst e; exact ⟨by omega, hdef⟩) (fun hE => k4.2 E hE)⟩, HN1.out, HN2.out, fun g e => (n3 g e).1, k3⟩, rfl⟩, by simp [intOf]; omega⟩
                  case stop =>
                    intro D c' pre V _ _ hf _
                    exact hf.elim
                · obtain rfl : j = st.1.length := by omega
                  obtain ⟨an, cn, rfl, _⟩ := HMT.out.slice
                  have z5 := HBX.out.cell
                  gi_wp2
                  refine ⟨⟨_, _, _, _, _, _, _, _, _, _, _, _, _, _, _, _, _, _, _, _, _, _, _, _, _, _, _, _, _, _, _, _, _, _, _, _, _, _, _, _, _, _, _, _, _, _, _, _, _, _, _, _, _, _, _, _, _, _, _, _, ⟨q + 1, Es, by omega, by go_num, rfl, ⟨?_, HCJ.out.box.kept HGW.out (by simp), HCJ.out.oven.same (HGW.out.block _ HCJ.out.oven.lt (by simp)), HCJ.out.given.grown HGW.out (fun r e => by cases e; have := HG.out.lt; omega), HMK.out, by omega⟩, ?_⟩, rfl⟩, by simp [intOf]; omega⟩
                  · rw [HST.out, ← partL_all]; exact HMT.out
                  · exact HJ.out _ _ _ (some (W.heap.size + 1)) HJN.out HGW.out (fun r e => by cases e; obtain ⟨x, h1, h2, _⟩ := HCJ.out.met.map; exact ⟨by omega, x, h1, h2⟩)
        · obtain rfl : q = M + 1 := by omega
          have hle : ¬ ((M + 1 : Nat) : Int) ≤ (M : Int) := by omega
          obtain ⟨a, c, rfl, _⟩ := HC.out.met.slice
          gi_wp2
          refine leaves_marks (s := W.heap.size) (fun V => J (yieldsTo o s0 (M + 1)) V) (fun V D hD h0 hq => HJ.out.putObj _ hq hD h0 rfl) Ds wr HC.out.marks HJQ.out (fun W' hq => ⟨_, results_none rfl _ _ _, ⟨_, rfl⟩, .inl (by rw [HS0.out]; exact hq)⟩)
theorem climates_seq (o : Ov) (ho : o.Ok) (lo hi : Int) (h : Bool) (M K : Nat) (hlo : -500 ≤ lo) (hhi : hi ≤ 1000) (hM : M ≤ 200) (hK : lo + (K : Int) = hi + 1) (X : Nat → Prop) (n bO bT bH bM : Nat) (hn : 3 ≤ n) (w : World)
    (hX : ∀ k, X k → k < w.heap.size ∧ k ≠ bO ∧ k ≠ bT ∧ k ≠ bH ∧ k ≠ bM) (hg : Given w bO bT bH bM o lo hi h M) :
    SeqO Fence.wide n Try.prog 97 #[.pointer (some ⟨bO, 0, none⟩), .pointer (some ⟨bT, 0, none⟩), .pointer (some ⟨bH, 0, none⟩), .pointer (some ⟨bM, 0, none⟩)] climEnc (fun l => Kept (fun k => X k ∨ k = l)) (fun ys => ys = yieldsTo o (beginL lo h K) (M + 1))
      (fun pre => ∃ ys, ys = yieldsTo o (beginL lo h K) (M + 1) ∧ pre <+: ys) (yieldsTo o (beginL lo h K) (M + 1)).length w := fun l J Jx W hW hl1 hl2 hJ hJx hY h0 =>
  climates1_in o ho lo hi h M K hlo hhi hM hK (fun k => X k ∨ k = l) W n l bO bT bH bM hn J Jx _ rfl hY (fun k x => x.elim (fun x => ⟨by have := (hX k x).1; have := hW.size; omega, (hX k x).2⟩) (fun e => ⟨by omega, by have := hg.lt; omega⟩)) hJ hJx
    (hg.same fun k hk => hW.block k (by have := hg.lt; rcases hk with rfl | rfl | rfl | rfl <;> omega)) h0

set_option maxHeartbeats 1000000 in
theorem climates_any (o : Ov) (lo hi : Int) (h : Bool) (M : Int) (w : World) :
    Calls Try.prog 80 #[o.val, .agg #[.int .i64 lo, .int .i64 hi], .bool h, .int .i64 M] w fun e w' => e = .returned (.func (.func 97) #[] #[.pointer (some ⟨w.heap.size, 0, none⟩), .pointer (some ⟨w.heap.size + 1, 0, none⟩), .pointer (some ⟨w.heap.size + 1 + 1, 0, none⟩), .pointer (some ⟨w.heap.size + 1 + 1 + 1, 0, none⟩)]) ∧
      w' = (((w.alloc (.cells #[.int .i64 o.lo, .int .i64 o.hi, .int .i64 o.warm.1, .int .i64 o.warm.2, .int .i64 o.cool.1, .int .i64 o.cool.2] 50)).alloc (.cells #[.int .i64 lo, .int .i64 hi] 31)).alloc (.cells #[.bool h] 4)).alloc (.cells #[.int .i64 M] 3) := by
  go_enter Try.func80, Try.ntmps80
  go_wp2
  go_ret
  exact ⟨rfl, rfl⟩
/-- The world in which an iterator over climates is asked for. -/
abbrev given4 (w : World) (o : Ov) (lo hi : Int) (h : Bool) (M : Int) : World := (((w.alloc (.cells #[.int .i64 o.lo, .int .i64 o.hi, .int .i64 o.warm.1, .int .i64 o.warm.2, .int .i64 o.cool.1, .int .i64 o.cool.2] 50)).alloc (.cells #[.int .i64 lo, .int .i64 hi] 31)).alloc (.cells #[.bool h] 4)).alloc (.cells #[.int .i64 M] 3)
theorem given4_size (w : World) (o : Ov) (lo hi : Int) (h : Bool) (M : Int) : (given4 w o lo hi h M).heap.size = w.heap.size + 4 := by simp
theorem given4_below (w : World) (o : Ov) (lo hi : Int) (h : Bool) (M : Int) : Below w.heap.size w (given4 w o lo hi h M) := b_alloc (b_alloc (b_alloc (b_alloc (Below.refl _ _) _) _) _) _
theorem given4_is (w : World) (o : Ov) (lo hi : Int) (h : Bool) (M : Int) : Given (given4 w o lo hi h M) w.heap.size (w.heap.size + 1) (w.heap.size + 1 + 1) (w.heap.size + 1 + 1 + 1) o lo hi h M := by
  have a1 := ((OAt.new w o).call (b_alloc (Below.refl _ _) (.cells #[.int .i64 lo, .int .i64 hi] 31))).call (b_alloc (Below.refl _ _) (.cells #[.bool h] 4)) |>.call (b_alloc (Below.refl _ _) (.cells #[.int .i64 M] 3))
  have a2 := fun k v e => (((Cel.new (w.alloc (.cells #[.int .i64 o.lo, .int .i64 o.hi, .int .i64 o.warm.1, .int .i64 o.warm.2, .int .i64 o.cool.1, .int .i64 o.cool.2] 50)) #[.int .i64 lo, .int .i64 hi] 31 k v e).alloc (.cells #[.bool h] 4)).alloc (.cells #[.int .i64 M] 3)).1
  have a3 := ((Boxed.new ((w.alloc (.cells #[.int .i64 o.lo, .int .i64 o.hi, .int .i64 o.warm.1, .int .i64 o.warm.2, .int .i64 o.cool.1, .int .i64 o.cool.2] 50)).alloc (.cells #[.int .i64 lo, .int .i64 hi] 31)) 4 (.bool h)).alloc (.cells #[.int .i64 M] 3)).cell
  have a4 := (Boxed.new (((w.alloc (.cells #[.int .i64 o.lo, .int .i64 o.hi, .int .i64 o.warm.1, .int .i64 o.warm.2, .int .i64 o.cool.1, .int .i64 o.cool.2] 50)).alloc (.cells #[.int .i64 lo, .int .i64 hi] 31)).alloc (.cells #[.bool h] 4)) 3 (.int .i64 M)).cell
  simp only [World.size_alloc] at a2 a3 a4
  exact ⟨a1, a2 0 _ rfl, a2 1 _ rfl, a3, a4⟩
end Go.Proofs.Ytlocdkjnefmiaaa
