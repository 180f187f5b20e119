/-
  slices.Collect over the steps of a machine; Trace.
-/
import Derived.RangeFuncBox
import Derived.OwnWalkIn
import Derived.Test.YtbfhgcnfhjhgcaaRun
namespace Go.Proofs.Ytbfhgcnfhjhgcaa
open Go.RowKit Go.Shelf
set_option linter.unusedVariables false
set_option linter.unusedSimpArgs false
attribute [local go_sem] Oper.semAt_some

abbrev stpC (x : Stp) : List Value := [.int .i64 x.at_, .int .i64 x.od.op, .int .i64 x.od.fr, .int .i64 x.od.to, .int .i64 x.od.nx, .int .i64 x.time, .int .i64 x.til]
def stpsC (xs : List Stp) : List Value := xs.flatMap stpC
theorem stpsC_snoc (xs : List Stp) (x : Stp) : stpsC (xs ++ [x]) = stpsC xs ++ stpC x := by simp [stpsC]
theorem infoS : (Try.prog.info? 57).map (fun i => (i.zero, i.size, i.bytes)) = some (some (.agg z7), 7, 56) := by kernel_rfl
theorem Mac.ownT {W W' : World} {base b g : Nat} {q : Sl} {s : St} {row : Option Nat} (h : Mac W base b g q s) (hg : W.grownBy W' row) (hr : ∀ r, row = some r → ∃ cur t fz, W.heap[r]? = some (.cells cur t fz) ∧ t ≠ 3 ∧ t ≠ 83) : Mac W' base b g q s := by
  have hi : ∀ (v : Value) (n : Nat) (xs : List Value), W.ownsRow base 3 1 v n xs → W'.ownsRow base 3 1 v n xs := fun v n xs ho => by
    refine ho.kept hg ?_
    rcases ho.2 with ⟨rfl, _⟩ | ⟨g', cap, cur, rfl, _, hc, _⟩
    · exact .inl rfl
    · refine .inr (fun e => ?_)
      obtain ⟨cur', t, fz, ho', h1, _⟩ := hr g' e.symm
      rw [hc] at ho'; cases ho'; exact h1 rfl
  refine ⟨(hg.block b h.blt (fun e => ?_)).trans h.blk, h.qa, hi _ _ _ h.own, hi _ _ _ h.tap, hi _ _ _ h.prn, h.hb, h.bg, h.nb, h.ng, h.pb, h.pg, h.pn⟩
  obtain ⟨cur', t, fz, ho', _, h1⟩ := hr b e.symm
  have hk : W.heap[b]? = some (.cells (stCells q s) 83 (0, 0)) := h.blk
  rw [hk] at ho'; cases ho'; exact h1 rfl

theorem Mac.other {W : World} {base b g : Nat} {q : Sl} {s : St} (h : Mac W base b g q s) {k : Nat} {cur : Array Value} {t : TypeId} {fz : Nat × Nat} (hk : W.heap[k]? = some (.cells cur t fz)) (h1 : t ≠ 3) (h2 : t ≠ 83) : k ≠ b ∧ k ≠ g ∧ blkOf q.c ≠ some k := by
  have hb : W.heap[b]? = some (.cells (stCells q s) 83 (0, 0)) := h.blk
  have hi : ∀ (a : Option Addr) (n c : Nat) (xs : List Value), W.ownsRow base 3 1 (.slice a n c) n xs → blkOf a ≠ some k := fun a n c xs ho e => by
    rcases ho.2 with ⟨e1, _⟩ | ⟨g', cap, cur', e1, _, hc, _⟩
    · simp at e1; rw [e1.1] at e; cases e
    · simp at e1
      rw [e1.1] at e
      simp [blkOf] at e
      subst e
      rw [hk] at hc; cases hc; exact h1 rfl
  refine ⟨fun e => ?_, fun e => ?_, hi _ _ _ _ h.prn⟩
  · subst e; rw [hk] at hb; cases hb; exact h2 rfl
  · exact hi _ _ _ _ h.own (by rw [h.qa, e]; rfl)
theorem newStp (W : World) (x : Stp) : ∀ (j : Nat) (u : Value), (stpC x)[j]? = some u → (W.alloc (.cells #[.int .i64 x.at_, .int .i64 x.od.op, .int .i64 x.od.fr, .int .i64 x.od.to, .int .i64 x.od.nx, .int .i64 x.time, .int .i64 x.til] 57)).cell? ((⟨W.heap.size, 0, none⟩ : Addr).add j) = some u := by
  intro j u hj
  rw [Addr.add_lit, Nat.zero_add]
  exact (Cel.new W #[.int .i64 x.at_, .int .i64 x.od.op, .int .i64 x.od.fr, .int .i64 x.od.to, .int .i64 x.od.nx, .int .i64 x.time, .int .i64 x.til] 57 j u (by simpa using hj)).1
set_option maxRecDepth 100000 in
set_option maxHeartbeats 4000000 in
theorem appendSeq_in (N : Nat) (hN : N ≤ 5000) (base b g bT bM : Nat) (s0 : St) (hs : SOk s0) (q0 : Sl) (w : World) (hbs : base ≤ w.heap.size)
    (cT : w.cell? ⟨bT, 0, none⟩ = some (.int .i64 (N : Int))) (cM : w.cell? ⟨bM, 0, none⟩ = some (.pointer (some ⟨b, 0, none⟩))) (hMb : bM ≠ b) (hMg : bM ≠ g) (hMq : blkOf q0.c ≠ some bM) (hm : Mac w base b g q0 s0) :
    CallsIn Fence.wide 8 Try.prog 75 #[.slice none 0 0, .func (.func 70) #[] #[.pointer (some ⟨bT, 0, none⟩), .pointer (some ⟨bM, 0, none⟩)]] w
      fun e W' => ∃ v, e = .returned v ∧ W'.ownsRow w.heap.size 57 7 v (St.trace N s0).length (stpsC (St.trace N s0)) ∧ Below base w W' := by
  obtain ⟨iI, hiI, hzI0, hzI1, hzI2⟩ := info_parts infoS
  have hML : bM < w.heap.size := World.block_lt_of_cell? w ⟨bM, 0, none⟩ cM
  have hb1 := b_alloc (Below.refl w.heap.size w) (.cells #[.slice none 0 0] 45)
  replace cT := cell_later hb1 cT
  replace cM := cell_later hb1 cM
  have hm1 := hm.below hb1
  have hbw : Below base w (w.alloc (.cells #[.slice none 0 0] 45)) := hb1.mono hbs
  have hbx := Boxed.new w 45 (.slice none 0 0)
  have hz1 : (w.alloc (.cells #[.slice none 0 0] 45)).heap.size = w.heap.size + 1 := by simp
  have CT := hid cT
  have CM := hid cM
  have hrn : ∀ (W : World), W.ownsRow w.heap.size 57 7 (.slice none 0 0) 0 (stpsC []) := fun W => World.ownsRow_nil W _ _ _
  refine callsIn_of_wp_marks Try.func75 rfl trivial ?_ rfl
  simp only [Try.ntmps75, List.size_toArray, List.length_cons, List.length_nil, Nat.reduceAdd, Nat.reduceSub, Array.replicate_succ, Array.replicate_zero, List.push_toArray, List.append_toArray, List.nil_append, List.cons_append]
  gi_wp2
  generalize w.alloc (.cells #[.slice none 0 0] 45) = W1 at *
  refine range_steps2 (by omega) N hN base b g bT bM s0 hs q0 rfl rfl CT.out CM.out hMb hMg hMq hm1
    (fun pre q W => (∃ v, Boxed W w.heap.size 45 v ∧ W.ownsRow w.heap.size 57 7 v pre.length (stpsC pre) ∧ True) ∧ Below base w W) ?own ?moves ⟨⟨_, hbx, hrn _, trivial⟩, hbw⟩
    (fun x a' W => ∃ eb, w.heap.size ≤ eb ∧ Blk W eb 57 (spCells x.at_ x.od x.time x.til) ∧ a' = { tmps := #[.slice none 0 0, .func (.func 70) #[] #[.pointer (some ⟨bT, 0, none⟩), .pointer (some ⟨bM, 0, none⟩)], .pointer (some ⟨w.heap.size, 0, none⟩), undef, .slice none 0 0, .pointer (some ⟨eb, 0, none⟩), .func (.func 70) #[] #[.pointer (some ⟨bT, 0, none⟩), .pointer (some ⟨bM, 0, none⟩)], stpV x, undef, undef, undef, undef, undef], defers := [] }) ?ownA ?assign ?body ?done
  case own =>
    intro q'
    refine OwnFrom.and (Own.from (holdsRow_own _ _ _ _ _ _ _ _) _) (ownFrom_below ?_ ?_)
    · exact hbs
    · omega
  case moves =>
    rintro pre q q' s A B ⟨⟨v, hv, hr, _⟩, hb⟩ hma hmv
    have hk : ∀ (k : Nat) (cur : Array Value) (t : TypeId) (fz : Nat × Nat), A.heap[k]? = some (Obj.cells cur t fz) → t ≠ 3 → t ≠ 83 → B.heap[k]? = A.heap[k]? := fun k cur t fz h h1 h2 => by
      obtain ⟨x1, x2, x3⟩ := hma.other h h1 h2
      exact hmv.oth k (Array.getElem?_eq_some_iff.1 h).1 x1 x2 x3
    refine ⟨⟨v, (hk _ _ _ _ hv (by decide) (by decide)).trans hv, ?_, trivial⟩, hb.trans hmv.low⟩
    rcases hr.2 with ⟨h1, h2⟩ | ⟨g', cap, cur, h1, h2, h3, h4⟩
    · exact ⟨hr.1, .inl ⟨h1, h2⟩⟩
    · exact ⟨hr.1, .inr ⟨g', cap, cur, h1, h2, (hk _ _ _ _ h3 (by decide) (by decide)).trans h3, h4⟩⟩
  case ownA =>
    rintro x a' _ A B row ⟨eb, h1, h2, h3⟩ hg hr
    exact ⟨eb, h1, blk_own h2 hg (fun r e => (hr r e).2), h3⟩
  case assign =>
    rintro l pre q s x W K ⟨⟨v, hv, hr, _⟩, hb⟩ hma hK
    have HK := hid hK
    have hzW := hb.size
    clear hK
    gi_wp2
    have hbA := b_alloc (Below.refl W.heap.size W) (.cells (spCells x.at_ x.od x.time x.til) 57)
    exact HK.out _ _ ((KeepsOthers.alloc _ _).from _) ⟨⟨v, hv.alloc _, hr.alloc _, trivial⟩, hb.trans (hbA.mono (by omega))⟩ ⟨hma.below hbA, World.cell?_of_block (a := ⟨bM, 0, none⟩) (hbA.block bM (by omega))⟩ ⟨W.heap.size, by omega, Blk.new _ _ _, rfl⟩
  case body =>
    rintro l pre q s x a' W ⟨⟨v, hv, hr, _⟩, hb⟩ hma ⟨eb, heb, hbk, rfl⟩ hlen
    have hzW := hb.size
    have cv := hv.cell
    have HR := hid hr
    have HV := hid hv
    obtain ⟨⟨s0', s1, s2, s3⟩, s4, s5, s6⟩ := spBlk hbk
    have hzA : (W.alloc (.cells #[.int .i64 x.at_, .int .i64 x.od.op, .int .i64 x.od.fr, .int .i64 x.od.to, .int .i64 x.od.nx, .int .i64 x.time, .int .i64 x.til] 57)).heap.size = W.heap.size + 1 := by simp
    gi_wp2_with (gi_at_builtin; refine wpListIn_append_own _ rfl (.tmp 8) (.tmp 10) 45 rfl w.heap.size 57 iI (.agg z7) 7 56 Try.underlying45 hiI hzI0 hzI1 hzI2 rfl (by decide) v pre.length (stpsC pre) rfl (HR.out.alloc _) ⟨W.heap.size, 0, none⟩ 1 1 (stpC x) rfl rfl ?q1 ?q2 (by unfold maxLen; omega) (by omega) (by omega) ?_)
    case q1 =>
      intro j u hj
      exact newStp W x j u hj
    case q2 => intro u hu; simp at hu; rcases hu with rfl | rfl | rfl | rfl | rfl | rfl | rfl <;> rfl
    intro v' w1 hown hgrow _
    have hown2 : w1.ownsRow w.heap.size 57 7 v' (pre.length + 1) (stpsC (pre ++ [x])) := by rw [stpsC_snoc]; exact hown
    obtain ⟨gg, cap, rfl⟩ := ownsRow_succ hown2
    obtain ⟨ap1, ap2, ap3, ap4, ap5⟩ := Boxed.appended HV.out (by decide) HR.out (by omega) (Nat.le_refl _) hown2 hgrow
    have HAP := hid (And.intro ap2 (And.intro ap3 (And.intro ap4 ap5)))
    have cb := ap1.cell
    have fb := ap1.frozen
    have mrow : ∀ r, v.ownBlock = some r → ∃ cur t fz, (W.alloc (.cells #[.int .i64 x.at_, .int .i64 x.od.op, .int .i64 x.od.fr, .int .i64 x.od.to, .int .i64 x.od.nx, .int .i64 x.time, .int .i64 x.til] 57)).heap[r]? = some (.cells cur t fz) ∧ t ≠ 3 ∧ t ≠ 83 := fun r e => by
      rcases (HR.out.alloc (.cells #[.int .i64 x.at_, .int .i64 x.od.op, .int .i64 x.od.fr, .int .i64 x.od.to, .int .i64 x.od.nx, .int .i64 x.time, .int .i64 x.til] 57)).2 with ⟨rfl, _⟩ | ⟨g', cap', cur, rfl, _, hc, _⟩
      · cases e
      · cases e; exact ⟨_, _, _, hc, by decide, by decide⟩
    have m1 := (hma.below (b_alloc (Below.refl W.heap.size W) (.cells #[.int .i64 x.at_, .int .i64 x.od.op, .int .i64 x.od.fr, .int .i64 x.od.to, .int .i64 x.od.nx, .int .i64 x.time, .int .i64 x.til] 57))).ownT hgrow mrow
    have m2 := m1.ownT (grown_setc w1 w.heap.size 0 (.slice (some ⟨gg, 0, none⟩) (pre.length + 1) cap)) (fun r e => by cases e; exact ⟨_, _, _, ap1, by decide, by decide⟩)
    have HM2 := hid m2
    clear cv s0' s1 s2 s3 s4 s5 s6 hown hown2 hgrow ap1 ap2 ap3 ap4 ap5 m1 m2 mrow
    gi_wp2
    exact ⟨HAP.out.2.2.1.from _, ⟨⟨_, HAP.out.1, HAP.out.2.1⟩, hb.trans (HAP.out.2.2.2.mono (by omega))⟩, HM2.out, World.cell?_of_block (a := ⟨bM, 0, none⟩) (HAP.out.2.2.2.block bM (by omega))⟩
  case done =>
    rintro D q W hD hma ⟨⟨v, hv, hr, _⟩, hb⟩ hK
    have cv := hv.cell
    gi_wp2
    refine ⟨by simp, .inl ⟨_, _, rfl, run_takeDeferred hK, ?_⟩⟩
    refine ⟨v, ?_, v, rfl, ownsRow_putObj hr _ hK rfl, hb.trans ((belowK_b (w := w) (Nat.le_refl _) _ D _ _ (by omega) hK rfl rfl).mono hbs)⟩
    simp [results, Try.f75, go_sem]
/-- A slice of steps, in memory of its own, and an error. -/
def RetT (w : World) (xs : List Stp) (er : Int) (e : Ending) (w' : World) : Prop := ∃ v, e = .returned (.tuple #[v, .int .i64 er]) ∧ w'.ownsRow w.heap.size 57 7 v xs.length (stpsC xs) ∧ Below w.heap.size w w'
set_option maxHeartbeats 1000000 in
theorem Collect_any (N : Nat) (hN : N ≤ 5000) (base b g bT bM : Nat) (s0 : St) (hs : SOk s0) (q0 : Sl) (w : World) (hbs : base ≤ w.heap.size)
    (cT : w.cell? ⟨bT, 0, none⟩ = some (.int .i64 (N : Int))) (cM : w.cell? ⟨bM, 0, none⟩ = some (.pointer (some ⟨b, 0, none⟩))) (hMb : bM ≠ b) (hMg : bM ≠ g) (hMq : blkOf q0.c ≠ some bM) (hm : Mac w base b g q0 s0) :
    Calls Try.prog 64 #[.func (.func 70) #[] #[.pointer (some ⟨bT, 0, none⟩), .pointer (some ⟨bM, 0, none⟩)]] w
      fun e W' => ∃ v, e = .returned v ∧ W'.ownsRow w.heap.size 57 7 v (St.trace N s0).length (stpsC (St.trace N s0)) ∧ Below base w W' := by
  have HA := hid (callsIn_wide.1 (appendSeq_in N hN base b g bT bM s0 hs q0 w hbs cT cM hMb hMg hMq hm))
  clear cT cM hm
  go_enter Try.func64, Try.ntmps64
  go_wp2_with (go_at_call 75; refine HA.out.mono ?_; rintro e w1 ⟨v, rfl, hr, hb⟩; have HR := hid hr; have HB := hid hb; clear hr hb)
  go_ret
  exact ⟨v, rfl, HR.out, HB.out⟩
set_option maxRecDepth 100000 in
set_option maxHeartbeats 4000000 in
theorem Trace_ok' (q : Sl) (s : St) (hs : SOk s) (N : Nat) (hN : N ≤ 5000) (w : World) (hst : ∀ W, Below w.heap.size w W → Calls Try.prog 60 #[stVal q s, .int .i64 N] W (StartRet W s)) :
    Calls Try.prog 33 #[stVal q s, .int .i64 N] w (RetT w (St.trace N s) 0) := by
  have HST := hid hst
  have B0 := hid (Blk.new w (stCells q s) 37)
  clear hst
  have HCO := hid (fun b g q1 W (h1 : w.heap.size + 2 ≤ W.heap.size) (hm : Mac W (w.heap.size + 2) b g q1 s) =>
    have hlb := hm.blt
    have hlg := hm.glt
    have hlq : ∀ r, blkOf q1.c = some r → r < W.heap.size := fun r e => (hm.prn.lt r (by rw [own_slice]; exact e)).2
    have cT := (Cel.new (W.alloc (.cells #[.pointer (some ⟨b, 0, none⟩)] 76)) #[.int .i64 (N : Int)] 3 0 _ rfl).1
    have cM := (Cel.alloc (Cel.new W #[.pointer (some ⟨b, 0, none⟩)] 76 0 _ rfl) (.cells #[.int .i64 (N : Int)] 3)).1
    have hb3 := b_alloc (b_alloc (Below.refl W.heap.size W) (.cells #[.pointer (some ⟨b, 0, none⟩)] 76)) (.cells #[.int .i64 (N : Int)] 3)
    Collect_any N hN (w.heap.size + 2) b g (W.heap.size + 1) W.heap.size s hs q1 ((W.alloc (.cells #[.pointer (some ⟨b, 0, none⟩)] 76)).alloc (.cells #[.int .i64 (N : Int)] 3)) (by simp; omega) (by rw [World.size_alloc] at cT; exact cT) cM (by omega) (by omega) (fun e => by have := hlq _ e; omega) (hm.below hb3))
  go_enter Try.func33, Try.ntmps33
  go_wp2_with (first
    | (go_at_call 60; refine (HST.out _ (by (repeat (first | assumption | exact Below.refl _ _ | refine b_alloc ?_ _ | refine Below.drew ?_ | refine b_drewN ?_ _ | refine Below.setCell ?_ (by first | omega | (simp; done) | (simp; omega)) _ | refine b_call (by assumption) ?_)))).mono ?_; rintro e w1 ⟨b, g, q1, rfl, hm1, hb1⟩; have HM1 := hid (show Mac w1 (w.heap.size + 2) b g q1 s by simpa using hm1); have HB1 := hid (b_call hb1 (b_alloc (Below.refl _ _) _)); have HZ1 := hid (show w.heap.size + 2 ≤ w1.heap.size by have := hm1.glt; simp at this; omega); clear hm1 hb1)
    | (go_at_call 61; refine (steps_any _ _ _).mono ?_; rintro e w2 ⟨rfl, rfl⟩)
    | (go_at_call 64; refine (HCO.out b g q1 w1 HZ1.out HM1.out).mono ?_; rintro e w3 ⟨v, rfl, hr, hb⟩; have HR := hid hr; have HB := hid hb; clear hr hb))
  go_ret2
  have hz := HB1.out.size
  exact ⟨v, rfl, ownsRow_low HR.out (by simp; omega), (b_alloc (b_alloc HB1.out _) _).trans (HB.out.mono (by omega))⟩
end Go.Proofs.Ytbfhgcnfhjhgcaa
