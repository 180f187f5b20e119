/-
  The reference's Can: its sets, step by step.
  Contracts of the reference's Span and Can.
-/
import Derived.Test.YtlocdkjnefmiaaaGCan
import Derived.Test.YtlocdkjnefmiaaaGBack
import Derived.StillTailTactics
import Derived.Test.YtlocdkjnefmiaaaRoundsLaw
import Derived.Test.YtlocdkjnefmiaaaGSteps
namespace Go.Proofs.Ytlocdkjnefmiaaa
open Go.RowKit
set_option linter.unusedVariables false
set_option linter.unusedSimpArgs false

/-- Number q is in a set. -/
def inB (cs : List Bool) (q : Nat) : Prop := cs[q]?.getD false = true
theorem inB_lt {cs : List Bool} {q : Nat} (h : inB cs q) : q < cs.length := by
  unfold inB at h
  by_cases g : q < cs.length
  · exact g
  · rw [List.getElem?_eq_none (by omega)] at h; simp at h
theorem inB_set {cs : List Bool} {i q : Nat} (hi : i < cs.length) : inB (cs.set i true) q ↔ q = i ∨ inB cs q := by
  unfold inB
  rw [List.getElem?_set]
  by_cases g : i = q
  · subst g; simp [hi]
  · simp [g, show ¬ q = i by omega]
theorem inB_none (n q : Nat) : ¬ inB (List.replicate n false) q := by
  unfold inB; rw [List.getElem?_replicate]; split <;> simp
/-- What the reference has of a span after some temperatures. -/
def OneTo (l : Ln) (lo : Int) (j : Nat) (os : List Bool) : Prop := ∀ q, inB os q ↔ within' l lo j (q : Int) false = true
theorem OneTo.lost {l : Ln} {lo : Int} {j : Nat} {os : List Bool} (h : OneTo l lo j os) (hr : l.rL (lo + j) = true) : OneTo l lo (j + 1) os := fun q => by
  rw [h q, within'_succ, hr]; simp
theorem OneTo.is {l : Ln} {lo : Int} {j nb i : Nat} {os : List Bool} (hnb : l.W * l.B = (nb : Int)) (h : OneTo l lo j os) (hl : os.length = nb) (hr : l.rL (lo + j) = false) (hi : (i : Int) = l.rS (lo + j) % (nb : Int)) (hin : i < nb) : OneTo l lo (j + 1) (os.set i true) := fun q => by
  rw [inB_set (by omega), h q, within'_succ, hr, hnb, ← hi]
  by_cases g : q = i
  · subst g; simp
  · simp [g, show ¬ (q : Int) = (i : Int) by omega]
/-- What the next set has after some numbers of this one, and some shifts. -/
def NextTo (cs os : List Bool) (nb n s : Nat) (nx : List Bool) : Prop := ∀ q, inB nx q ↔ ∃ n' s', (n' < n ∨ (n' = n ∧ s' < s)) ∧ inB cs n' ∧ inB os s' ∧ q = (n' + s') % nb
theorem NextTo.none (cs os : List Bool) (nb : Nat) : NextTo cs os nb 0 0 (List.replicate nb false) := fun q => by
  constructor
  · intro h; exact absurd h (inB_none _ _)
  · rintro ⟨n', s', h, _⟩; omega
theorem NextTo.no {cs os nx : List Bool} {nb n s : Nat} (h : NextTo cs os nb n s nx) (hs : ¬ inB os s) : NextTo cs os nb n (s + 1) nx := fun q => by
  rw [h q]
  constructor
  · rintro ⟨n', s', h1, h2⟩; exact ⟨n', s', by omega, h2⟩
  · rintro ⟨n', s', h1, h2, h3, h4⟩
    refine ⟨n', s', ?_, h2, h3, h4⟩
    rcases h1 with h1 | ⟨h1, h5⟩
    · exact .inl h1
    · by_cases g : s' = s
      · subst g; exact absurd h3 hs
      · exact .inr ⟨h1, by omega⟩
theorem NextTo.yes {cs os nx : List Bool} {nb n s : Nat} (h : NextTo cs os nb n s nx) (hl : nx.length = nb) (h1 : 1 ≤ nb) (hc : inB cs n) (hs : inB os s) : NextTo cs os nb n (s + 1) (nx.set ((n + s) % nb) true) := fun q => by
  have hlt := Nat.mod_lt (n + s) h1
  rw [inB_set (by omega), h q]
  constructor
  · rintro (rfl | ⟨n', s', h1, h2⟩)
    · exact ⟨n, s, by omega, hc, hs, rfl⟩
    · exact ⟨n', s', by omega, h2⟩
  · rintro ⟨n', s', h1, h2, h3, h4⟩
    by_cases g : n' = n ∧ s' = s
    · obtain ⟨rfl, rfl⟩ := g; exact .inl h4
    · exact .inr ⟨n', s', by omega, h2, h3, h4⟩
theorem NextTo.skip {cs os nx : List Bool} {nb n s : Nat} (h : NextTo cs os nb n s nx) (hc : ¬ inB cs n) : NextTo cs os nb (n + 1) 0 nx := fun q => by
  rw [h q]
  constructor
  · rintro ⟨n', s', h1, h2, h3⟩
    refine ⟨n', s', ?_, h2, h3⟩
    rcases h1 with h1 | ⟨rfl, _⟩
    · exact .inl (by omega)
    · exact absurd h2 hc
  · rintro ⟨n', s', h1, h2, h3⟩
    refine ⟨n', s', ?_, h2, h3⟩
    by_cases g : n' = n
    · subst g; exact absurd h2 hc
    · exact .inl (by omega)
theorem NextTo.row {cs os nx : List Bool} {nb n : Nat} (h : NextTo cs os nb n nb nx) (ho : os.length = nb) : NextTo cs os nb (n + 1) 0 nx := fun q => by
  rw [h q]
  constructor
  · rintro ⟨n', s', h1, h2⟩; exact ⟨n', s', by omega, h2⟩
  · rintro ⟨n', s', h1, h2, h3, h4⟩
    have := inB_lt h3
    exact ⟨n', s', by omega, h2, h3, h4⟩
/-- The set after k spans. -/
def SetTo (l : Ln) (ss : List (Int × Int)) (nb k : Nat) (cs : List Bool) : Prop := ∀ q, inB cs q ↔ Reach l ss nb k q
theorem SetTo.next {l : Ln} {ss : List (Int × Int)} {nb k : Nat} {cs os nx : List Bool} (hc : SetTo l ss nb k cs) (ho : OneTo l (ss[k]?.getD (0, 0)).1 (spanN (ss[k]?.getD (0, 0))) os) (hn : NextTo cs os nb nb 0 nx) (hl : cs.length = nb) : SetTo l ss nb (k + 1) nx := fun q => by
  rw [hn q]
  constructor
  · rintro ⟨n', s', h1, h2, h3, h4⟩
    exact ⟨s', n', (ho s').1 h3, (hc n').1 h2, h4⟩
  · rintro ⟨s, m, h1, h2, h3⟩
    have hm := (hc m).2 h2
    have := inB_lt hm
    exact ⟨m, s, by omega, hm, (ho s).2 h1, h3⟩
/-- The numbers of a set below m. -/
def numsB (cs : List Bool) (m : Nat) : List Nat := (List.range m).filter fun i => cs[i]?.getD false
theorem numsB_succ (cs : List Bool) (m : Nat) : numsB cs (m + 1) = if cs[m]?.getD false then numsB cs m ++ [m] else numsB cs m := by
  unfold numsB; rw [List.range_succ, List.filter_append]; simp [List.filter_cons]; split <;> simp
theorem numsB_len (cs : List Bool) (m : Nat) : (numsB cs m).length ≤ m := by
  unfold numsB; exact Nat.le_trans (List.length_filter_le _ _) (by simp)
theorem numsB_mem {cs : List Bool} {m q : Nat} (hl : cs.length = m) : q ∈ numsB cs m ↔ inB cs q := by
  unfold numsB inB
  constructor
  · intro h; exact (List.mem_filter.1 h).2
  · intro h
    have := inB_lt (cs := cs) (q := q) h
    exact List.mem_filter.2 ⟨List.mem_range.2 (by omega), h⟩
theorem numsB_asc (cs : List Bool) (m : Nat) : Asc (numsB cs m) := asc_of (List.Pairwise.filter _ List.pairwise_lt_range)
theorem asc_eq {xs ys : List Nat} (hx : Asc xs) (hy : Asc ys) (h : ∀ n, n ∈ xs ↔ n ∈ ys) : xs = ys := by
  have p : ∀ {zs : List Nat}, Asc zs → zs.Pairwise (· < ·) := fun {zs} hz => List.pairwise_iff_getElem.2 fun i j hi hj hij => by
    have := hz i j hij hj; simpa [hi, hj] using this
  have e : ∀ (xs ys : List Nat), xs.Pairwise (· < ·) → ys.Pairwise (· < ·) → (∀ n, n ∈ xs ↔ n ∈ ys) → xs = ys := by
    intro xs
    induction xs with
    | nil =>
      intro ys _ _ h
      cases ys with
      | nil => rfl
      | cons y ys => have := (h y).2 (by simp); simp at this
    | cons x xs ih =>
      intro ys hx hy h
      cases ys with
      | nil => have := (h x).1 (by simp); simp at this
      | cons y ys =>
        rw [List.pairwise_cons] at hx hy
        have hxy : x = y := by
          rcases List.mem_cons.1 ((h x).1 (by simp)) with e | e
          · exact e
          · rcases List.mem_cons.1 ((h y).2 (by simp)) with e2 | e2
            · exact e2.symm
            · have := hx.1 y e2; have := hy.1 x e; omega
        subst hxy
        rw [ih ys hx.2 hy.2 fun n => ?_]
        constructor
        · intro hn
          rcases List.mem_cons.1 ((h n).1 (by simp [hn])) with e | e
          · subst e; have := hx.1 n hn; omega
          · exact e
        · intro hn
          rcases List.mem_cons.1 ((h n).2 (by simp [hn])) with e | e
          · subst e; have := hy.1 n hn; omega
          · exact e
  exact e xs ys (p hx) (p hy) h
end Go.Proofs.Ytlocdkjnefmiaaa
namespace Go.Proofs.Ytlocdkjnefmiaaa
open Go.RowKit
set_option linter.unusedVariables false
set_option linter.unusedSimpArgs false

set_option maxHeartbeats 1000000 in
theorem refSpan_any (s : Int × Int) (w : World) : Calls Try.prog 76 #[spanV s] w (Ret w (.int .i64 (spanErr s))) := by
  obtain ⟨lo, hi⟩ := s
  go_enter Try.func76, Try.ntmps76
  go_wp2_with (go_at_call 47; refine (Temp_any _ _).mono ?_; rintro e w1 ⟨rfl, rfl⟩)
  all_goals
    go_ret
    refine ⟨?_, by (repeat (first | assumption | exact Below.refl _ _ | refine b_alloc ?_ _ | refine Below.drew ?_ | refine b_drewN ?_ _ | refine Below.setCell ?_ (by first | omega | (simp; done) | (simp; omega)) _ | refine b_call (by assumption) ?_))⟩
    show Ending.returned (.int .i64 _) = _
    simp_all [spanErr, Temp]
    try omega

theorem made_bools (nb : Nat) : (madeCells (Value.bool false).cells (nb * 1)).toList = (List.replicate nb false).map Value.bool := by
  rw [Nat.mul_one, show (Value.bool false).cells = #[Value.bool false] from rfl, toList_madeCells_one, List.map_replicate]
theorem canB_alloc2 (w : World) (o : Obj) : CB ((w.alloc o).alloc (.cells #[.slice none 0 0, .bool false] 42)) (w.heap.size + 1) := by
  have := CB.new (w.alloc o)
  rwa [World.size_alloc] at this
/-- What the reference's Can has laid: the line, what it returns, what it has found. -/
structure CEnv (s bo : Nat) (l : Ln) (v : Value) (lost : Bool) (W : World) : Prop where
  ln : LnAt s l W
  res : CB W (s + 1)
  out : Cel W bo 0 v
  lost : Cel W bo 1 (.bool lost)
  apart : s + 1 < bo
theorem CEnv.grown {s bo : Nat} {l : Ln} {v : Value} {lost : Bool} {W W' : World} {row : Option Nat} (h : CEnv s bo l v lost W) (hg : W.grownBy W' row) (hne : ∀ r, row = some r → bo < r) : CEnv s bo l v lost W' :=
  ⟨lnAt_grown h.ln hg (fun r e => by have := hne r e; have := h.apart; omega), ⟨h.res.1.grown hg (fun r e => by have := hne r e; have := h.apart; omega), h.res.2.grown hg (fun r e => by have := hne r e; have := h.apart; omega)⟩, h.out.grown hg (fun r e => by have := hne r e; omega), h.lost.grown hg (fun r e => by have := hne r e; omega), h.apart⟩
theorem CEnv.below {s bo : Nat} {l : Ln} {v : Value} {lost : Bool} {W W' : World} (h : CEnv s bo l v lost W) (hb : Below W.heap.size W W') : CEnv s bo l v lost W' :=
  ⟨lnAt_call h.ln hb, h.res.call hb, h.out.call hb, h.lost.call hb, h.apart⟩

theorem CEnv.setLost {s bo : Nat} {l : Ln} {v : Value} {lost : Bool} {W : World} (h : CEnv s bo l v lost W) : CEnv s bo l v true (W.setCell ⟨bo, 1, none⟩ (.bool true)) ∧ W.grownBy (W.setCell ⟨bo, 1, none⟩ (.bool true)) (some bo) := by
  have ha := h.apart
  refine ⟨⟨lnAt_set h.ln (by omega), ⟨h.res.1.set (by omega), h.res.2.set (by omega)⟩, ⟨(World.cell?_setCell_other W ⟨bo, 1, none⟩ ⟨bo, 0, none⟩ (.bool true) (by simp)).trans h.out.1, by rw [World.frozen?_setCell]; exact h.out.2⟩, ⟨World.cell?_setCell_same' W ⟨bo, 1, none⟩ (.bool true) (by rw [h.lost.1]; rfl), ?_⟩, h.apart⟩, ⟨rfl, rfl, rfl, by simp, fun k hk hne => Below.heap_setCell W _ _ k (fun e => hne (by rw [e]))⟩⟩
  rw [World.frozen?_setCell]; exact h.lost.2

theorem CEnv.setOut {s bo : Nat} {l : Ln} {v : Value} {lost : Bool} {W : World} (h : CEnv s bo l v lost W) (u : Value) : CEnv s bo l u lost (W.setCell ⟨bo, 0, none⟩ u) ∧ W.grownBy (W.setCell ⟨bo, 0, none⟩ u) (some bo) := by
  have ha := h.apart
  refine ⟨⟨lnAt_set h.ln (by omega), ⟨h.res.1.set (by omega), h.res.2.set (by omega)⟩, ⟨World.cell?_setCell_same' W ⟨bo, 0, none⟩ u (by rw [h.out.1]; rfl), by rw [World.frozen?_setCell]; exact h.out.2⟩, ⟨(World.cell?_setCell_other W ⟨bo, 0, none⟩ ⟨bo, 1, none⟩ u (by simp)).trans h.lost.1, by rw [World.frozen?_setCell]; exact h.lost.2⟩, h.apart⟩, ⟨rfl, rfl, rfl, by simp, fun k hk hne => Below.heap_setCell W _ _ k (fun e => hne (by rw [e]))⟩⟩

set_option maxRecDepth 100000 in
set_option maxHeartbeats 8000000 in
theorem refCan_ok (l : Ln) (h : l.Ok) (nb : Nat) (hnb : l.W * l.B = (nb : Int)) (a : Option Addr) (ca : Nat) (ss : List (Int × Int)) (hlt : ss.length ≤ 60) (he : spansErr ss = 0) (w : World) (hx : SpansAt w a ss) :
    Calls Try.prog 33 #[l.val, .slice a ss.length ca] w (CanRet w (Reach l ss nb ss.length) (lostTo l ss ss.length)) := by
  obtain ⟨iB, hiB, hzB0, hzB1, hzB2⟩ := info_parts infoB
  obtain ⟨iI, hiI, hzI0, hzI1, hzI2⟩ := info_parts infoI
  have hb := h.beats
  have hb1 := h.beats1
  have hnb1 : 1 ≤ nb ∧ nb ≤ 2560 := by omega
  have HX := hid hx
  have HSE := hid (spansErr_zero he)
  have HH := hid h
  have HNB := hid hnb
  have hL0 := hid (lnAt_call (lnAt_new' l w) (b_alloc (Below.refl _ _) (.cells #[.slice none 0 0, .bool false] 42)))
  have hC0 := hid (canB_alloc2 w (.cells #[.int .i64 l.W, .int .i64 l.B, .int .i64 l.P, .int .i64 l.D, .int .i64 l.S, .int .i64 l.N] 25))
  have hlt2 : (ss.length : Int) ≤ 60 := by omega
  clear hx he hnb h hb hb1
  go_enter Try.func33, Try.ntmps33
  go_wp2_with (go_at_call 26; refine (refCheck_ok l HH.out _).mono ?_; rintro e w1 ⟨rfl, hb1⟩; have HB1 := hid (show Below w.heap.size w w1 by (repeat (first | assumption | exact Below.refl _ _ | refine b_alloc ?_ _ | refine Below.drew ?_ | refine b_drewN ?_ _ | refine Below.setCell ?_ (by first | omega | (simp; done) | (simp; omega)) _ | refine b_call (by assumption) ?_))); have hL1 := hid (lnAt_call hL0.out hb1); have hC1 := hid (hC0.out.call hb1); have hs1 : w.heap.size + 2 ≤ w1.heap.size := (by have := hb1.size; simp at this; omega); clear hb1 hL0 hC0)
  go_loopw [6, 7] (fun e i wr => ∃ k : Nat, k ≤ ss.length ∧ i = .int .i64 k ∧ e = .int .i64 0 ∧ Below w1.heap.size w1 wr) (fun _ i _ => ss.length - (intOf i).toNat)
  case atStart => exact ⟨0, Nat.zero_le _, rfl, rfl, Below.refl _ _⟩
  case round =>
    obtain ⟨k, hk, rfl, rfl, hbr⟩ := hrel
    have HBR := hid hbr
    by_cases hlt3 : k < ss.length
    · obtain ⟨bb, off, rfl, hc1, hc2⟩ := (HX.out.below (b_call hbr HB1.out)) k hlt3
      have hse := HSE.out k hlt3
      generalize ss[k]?.getD (0, 0) = sp at *
      obtain ⟨lo, hi⟩ := sp
      have HS := hid (fun W => refSpan_any (lo, hi) W)
      rw [hse] at HS
      clear hse hbr
      simp only at hc1 hc2
      go_wp2_with (go_at_call 76; refine (HS.out _).mono ?_; rintro e w3 ⟨rfl, hb3⟩; have HB3 := hid (b_call hb3 HBR.out); clear hb3)
      go_roundw
      case rel => exact ⟨k + 1, by omega, by go_num, rfl, HB3.out⟩
      case measure => simp [intOf]; omega
    · obtain rfl : k = ss.length := by omega
      have hLr := hid (lnAt_call hL1.out hbr)
      have hCr := hid (hC1.out.call hbr)
      have HB2 := hid (b_call hbr HB1.out)
      have hs2 : w.heap.size + 2 ≤ wr.heap.size := by have := hbr.size; omega
      obtain ⟨d0, d1, d2, d3, d4, d5⟩ := hLr.out
      have hnb := HNB.out
      clear hbr
      go_wp2_with (refine wpList_make_full _ rfl _ _ 91 rfl (wr.heap.size + 1) 4 iB (.bool false) 1 Try.underlying91 hiB hzB0 hzB1 .i64 .i64 (nb : Int) (nb : Int) nb rfl rfl rfl rfl (by rw [hzB2]; omega) (by unfold maxLen; omega) (by simp) ?_; intro w4 hown hgrow; rw [made_bools] at hown; simp only [World.size_alloc] at hown; have hc := (hown.cellAt 0 (by omega)).trans (show _ = some (Value.bool false) by simp [List.getElem?_replicate]; omega); have hf := hown.frozenAt 0; have HOWN := hid hown; have HG := hid hgrow; clear hown hgrow d0 d1 d2 d3 d4 d5 hnb)
      have hst := HOWN.out.stored 0 (.bool true)
      have hcs0 : SetTo l ss nb 0 ((List.replicate nb false).set 0 true) := fun q => by
        rw [inB_set (by simp; omega), Reach]
        constructor
        · rintro (e | e)
          · exact e
          · exact absurd e (inB_none _ _)
        · exact .inl
      have hE0 : CEnv w.heap.size wr.heap.size l (.slice none 0 0) (lostTo l ss 0) (w4.setCell ⟨wr.heap.size + 1, 0, none⟩ (.bool true)) := by
        have e0 := Cel.new wr #[.slice none 0 0, .bool false] 42
        have hb0 := b_alloc (Below.refl wr.heap.size wr) (.cells #[.slice none 0 0, .bool false] 42)
        have := (CEnv.mk (lnAt_call hLr.out hb0) (hCr.out.call hb0) (e0 0 _ rfl) (e0 1 _ rfl) (by omega) : CEnv w.heap.size wr.heap.size l (.slice none 0 0) false _)
        exact ((this.grown HG.out (by simp)).grown hst.2 (fun r e => by cases e; omega))
      have hB0 : Below wr.heap.size wr (w4.setCell ⟨wr.heap.size + 1, 0, none⟩ (.bool true)) := (b_call (below_of_grown HG.out) (b_alloc (Below.refl _ _) _)).setCell (p := ⟨wr.heap.size + 1, 0, none⟩) (by simp) _
      have hR0 := hst.1
      rw [← List.map_set] at hR0
      have HC0 := hid hcs0
      have HE0 := hid hE0
      have HBB := hid hB0
      have HR0 := hid hR0
      clear hst hcs0 hE0 hB0 hR0 hc hf HOWN HG hLr hCr
      generalize World.setCell w4 ⟨wr.heap.size + 1, 0, none⟩ (.bool true) = W4 at *
      obtain ⟨wb, rfl⟩ : ∃ wb : World, wb = wr := ⟨_, rfl⟩
      have HW4 := hid (show wb.heap.size + 2 ≤ W4.heap.size from by have h9 : wb.heap.size + 1 < W4.heap.size := (HR0.out.lt _ rfl).2; omega)
      go_loopw [10, 11] (fun v i wr => ∃ (k g : Nat) (cs : List Bool), k ≤ ss.length ∧ i = .int .i64 k ∧ v = .slice (some ⟨g, 0, none⟩) nb nb ∧ cs.length = nb ∧ wr.ownsRow (wb.heap.size + 1) 4 1 (.slice (some ⟨g, 0, none⟩) nb nb) nb (cs.map Value.bool) ∧ SetTo l ss nb k cs ∧ CEnv w.heap.size wb.heap.size l (.slice none 0 0) (lostTo l ss k) wr ∧ Below wb.heap.size wb wr) (fun _ i _ => ss.length - (intOf i).toNat)
      case atStart => exact ⟨0, wb.heap.size + 1, _, Nat.zero_le _, rfl, rfl, by simp, HR0.out, HC0.out, HE0.out, HBB.out⟩
      case round =>
        obtain ⟨k, g, cs, hk, rfl, rfl, hcl, hrow, hset, henv, hbr⟩ := hrel
        have HCL := hid hcl
        have HROW := hid hrow
        have HSET := hid hset
        have HENV := hid henv
        have HBR := hid hbr
        have hzr := hbr.size
        clear hrow hset henv hbr hcl
        by_cases hlt3 : k < ss.length
        · obtain ⟨bb, off, rfl, hc1, hc2⟩ := (HX.out.below (b_call HBR.out HB2.out)) k hlt3
          have hbbl : bb < w.heap.size := by
            obtain ⟨_, _, e, c, _⟩ := HX.out k hlt3
            cases e
            exact World.block_lt_of_cell? _ _ c
          have hse := spanErr_ok (HSE.out k hlt3)
          have hls := lostTo_succ l ss k
          have hnx := fun os nx (ho : OneTo l _ _ os) hn => SetTo.next (nx := nx) HSET.out ho hn HCL.out
          generalize ss[k]?.getD (0, 0) = sp at *
          obtain ⟨lo, hi⟩ := sp
          simp only at hc1 hc2 hse hnx
          obtain ⟨K, hK⟩ : ∃ K, spanN (lo, hi) = K := ⟨_, rfl⟩
          rw [hK] at hls hnx
          have hK2 : lo + (K : Int) = hi + 1 := by rw [← hK]; unfold spanN; simp only; omega
          have HLS := hid hls
          have HNX := hid hnx
          clear hls hnx hK
          have k0 : (0 : Int) ≤ (k : Int) := by omega
          have k1 : (k : Int) < (ss.length : Int) := by omega
          go_wp2_with (refine wpList_make_full _ rfl _ _ 91 rfl wr.heap.size 4 iB (.bool false) 1 Try.underlying91 hiB hzB0 hzB1 .i64 .i64 (nb : Int) (nb : Int) nb rfl rfl rfl rfl (by rw [hzB2]; omega) (by unfold maxLen; omega) (Nat.le_refl _) ?_; intro w5 hown hgrow; rw [made_bools] at hown; have hc3 := cell_later (below_of_grown hgrow) hc1; have hc4 := cell_later (below_of_grown hgrow) hc2; have HOWN := hid hown; have HG := hid hgrow; clear hown hgrow hc1 hc2)
          have hblt : wb.heap.size < wr.heap.size := by have h9 := HROW.out.lt _ rfl; omega
          have hgr : g < wr.heap.size := (HROW.out.lt g rfl).2
          have HR5 := hid (ownsRow_below (below_of_grown HG.out) HROW.out)
          have HE5 := hid (HENV.out.grown HG.out (fun r e => by cases e))
          have HB5 := hid (b_call (below_of_grown HG.out) HBR.out)
          have hw0 : within' l lo 0 0 true = false := within'_zero l lo 0 true
          have hone : OneTo l lo 0 (List.replicate nb false) := fun q => by rw [within'_zero]; exact ⟨fun e => absurd e (inB_none _ _), fun e => by cases e⟩
          have HONE := hid hone
          have HW0 := hid hw0
          obtain ⟨wo, rfl⟩ : ∃ wo : World, wo = wr := ⟨_, rfl⟩
          clear hone hw0 HROW HENV HBR HG
          go_loopw [13] (fun tv wr => ∃ (j : Nat) (os : List Bool), j ≤ K ∧ tv = .int .i64 (lo + (j : Int)) ∧ os.length = nb ∧ wr.ownsRow wo.heap.size 4 1 (.slice (some ⟨wo.heap.size, 0, none⟩) nb nb) nb (os.map Value.bool) ∧ OneTo l lo j os ∧ CEnv w.heap.size wb.heap.size l (.slice none 0 0) (lostTo l ss k || within' l lo j 0 true) wr ∧
              wr.ownsRow (wb.heap.size + 1) 4 1 (.slice (some ⟨g, 0, none⟩) nb nb) nb (cs.map Value.bool) ∧ Below wb.heap.size wb wr ∧ wr.cell? ⟨bb, off + k * 2 + 1, none⟩ = some (.int .i64 hi)) (fun tv _ => (hi + 1 - intOf tv).toNat)
          case atStart => exact ⟨0, _, Nat.zero_le _, by simp, by simp, HOWN.out, HONE.out, by rw [HW0.out, Bool.or_false]; exact HE5.out, HR5.out, HB5.out, hc4⟩
          case round =>
            obtain ⟨j, os, hj, rfl, hol, hro, hone, henv, hrc, hbr, hc5⟩ := hrel
            have HOL := hid hol
            have HRO := hid hro
            have HON := hid hone
            have HENV := hid henv
            have HRC := hid hrc
            have HBR := hid hbr
            clear hol hro hone henv hrc hbr hc3 hc4 HR5 HE5 HB5 HOWN
            by_cases hjlt : j < K
            · have hle : lo + (j : Int) ≤ hi := by omega
              have ht : Temp (lo + (j : Int)) := by unfold Temp; omega
              have hlf := fun hr => HON.out.lost hr
              have his := fun i hr hi hn => HON.out.is (i := i) HNB.out HOL.out hr hi hn
              have hws := within'_succ l lo j 0 true
              have hrb := rS_bd HH.out ht
              obtain ⟨t, hte⟩ : ∃ t, lo + (j : Int) = t := ⟨_, rfl⟩
              rw [hte] at ht hlf his hws hrb hle
              have HTE := hid hte
              obtain ⟨d0, d1, d2, d3, d4, d5⟩ := HENV.out.ln
              rw [hte]
              clear hte
              cases hs : l.shift t with
              | none =>
                have hr : l.rL t = true := by unfold Ln.rL; rw [hs]; rfl
                have hr0 : l.rS t = 0 := by unfold Ln.rS; rw [hs]; rfl
                have HSH := hid (fun W => refshift_lost l HH.out t ht hs W)
                have hl2 : within' l lo (j + 1) 0 true = true := by rw [hws, hr, hr0, Int.zero_emod]; simp
                have HL2 := hid hl2
                have HO2 := hid (hlf hr)
                clear hs hr hr0 hl2 hlf his hws hrb
                go_wp2_with (go_at_call 59; refine (HSH.out _).mono ?_; rintro e w6 ⟨rfl, hb6⟩; have HE6 := hid (HENV.out.below hb6); have HC6 := hid (ownsRow_below hb6 HRC.out); have HO6 := hid (ownsRow_below hb6 HRO.out); have HB6 := hid (b_call hb6 HBR.out); have hc6 := cell_later hb6 hc5; obtain ⟨e0, e1⟩ := HE6.out.lost; clear hb6 d0 d1 d2 d3 d4 d5 hc5)
                have hsl := HE6.out.setLost
                go_roundw
                case rel =>
                  refine ⟨j + 1, os, by omega, by rw [← HTE.out]; go_num, HOL.out, HO6.out.kept hsl.2 (.inr (by simp [Value.ownBlock]; omega)), HO2.out, by rw [HL2.out, Bool.or_true]; exact hsl.1, HC6.out.kept hsl.2 (.inr (by have h9 : wb.heap.size + 1 ≤ g := (HC6.out.lt _ rfl).1; simp [Value.ownBlock]; omega)), HB6.out.setCell (p := ⟨wb.heap.size, 1, none⟩) (Nat.le_refl _) _, ?_⟩
                  exact (World.cell?_setCell_far _ _ _ _ (show wb.heap.size ≠ bb by omega)).trans hc6
                case measure => simp [intOf]; omega
              | some sh =>
                have hr : l.rL t = false := by unfold Ln.rL; rw [hs]; rfl
                have hr0 : l.rS t = sh := by unfold Ln.rS; rw [hs]; rfl
                have HSH := hid (fun W => refshift_is l HH.out t ht sh hs W)
                rw [hr0] at his hrb
                have hl2 : within' l lo (j + 1) 0 true = within' l lo j 0 true := by rw [hws, hr]; simp
                have HL2 := hid hl2
                obtain ⟨q, hq⟩ : ∃ q, sh.tmod (nb : Int) = q := ⟨_, rfl⟩
                have qb := tmod_bd sh (nb : Int) (by omega)
                rw [hq] at qb
                have h0 := Int.emod_nonneg sh (show (nb : Int) ≠ 0 by omega)
                have h1 := Int.emod_lt_of_pos sh (show (0 : Int) < nb by omega)
                obtain ⟨i, hi⟩ : ∃ i : Nat, sh % (nb : Int) = (i : Int) := ⟨(sh % (nb : Int)).toNat, by omega⟩
                have hq2 : (q + (nb : Int)).tmod (nb : Int) = (i : Int) := by rw [← hq, tmod_fix _ _ (by omega), hi]
                have hin : i < nb := by omega
                have HO2 := hid (his i hr hi.symm hin)
                have hnz : ¬ (nb : Int) = 0 := by omega
                have hnz2 : ¬ nb = 0 := by omega
                have f1 : IntKind.i64.wrap q = q := IntWalk.i64_in _ (by omega)
                have f2 : IntKind.i64.wrap (q + (nb : Int)) = q + (nb : Int) := IntWalk.i64_in _ (by omega)
                have f3 : IntKind.i64.wrap (i : Int) = (i : Int) := IntWalk.i64_in _ (by omega)
                have g1 : (i : Int) < (nb : Int) := by omega
                have g2 : (0 : Int) ≤ (i : Int) := by omega
                clear hs hr hr0 hl2 hlf his hws h0 h1 hi
                go_wp2_with (go_at_call 59; refine (HSH.out _).mono ?_; rintro e w6 ⟨rfl, hb6⟩; have HE6 := hid (HENV.out.below hb6); have HC6 := hid (ownsRow_below hb6 HRC.out); have HO6 := hid (ownsRow_below hb6 HRO.out); have HB6 := hid (b_call hb6 HBR.out); have hc6 := cell_later hb6 hc5; have e0 := (HO6.out.cellAt i (by omega)).trans (show _ = some (Value.bool (os[i]?.getD false)) by simp [HOL.out, hin]); have e1 := HO6.out.frozenAt i; clear hb6 d0 d1 d2 d3 d4 d5 hc5)
                have hst := HO6.out.stored i (.bool true)
                go_roundw
                case rel =>
                  refine ⟨j + 1, os.set i true, by omega, by rw [← HTE.out]; go_num, by simp [HOL.out], by rw [List.map_set]; exact hst.1, HO2.out, by rw [HL2.out]; exact HE6.out.grown hst.2 (fun r e => by cases e; omega), HC6.out.kept hst.2 (.inr (by simp [Value.ownBlock]; omega)), HB6.out.setCell (p := ⟨wo.heap.size, i, none⟩) (by simp; omega) _, ?_⟩
                  exact (World.cell?_setCell_far _ _ _ _ (show wo.heap.size ≠ bb by omega)).trans hc6
                case measure => simp [intOf]; omega
            · obtain rfl : j = K := by omega
              have hle : ¬ lo + (j : Int) ≤ hi := by omega
              have hsz := HBR.out.size
              go_wp2_with (refine wpList_make_full _ rfl _ _ 91 rfl wr.heap.size 4 iB (.bool false) 1 Try.underlying91 hiB hzB0 hzB1 .i64 .i64 (nb : Int) (nb : Int) nb rfl rfl rfl rfl (by rw [hzB2]; omega) (by unfold maxLen; omega) (Nat.le_refl _) ?_; intro w7 hown hgrow; rw [made_bools] at hown; have HOWN := hid hown; have HG := hid hgrow; clear hown hgrow)
              have hR7 := hid (ownsRow_below (below_of_grown HG.out) HRC.out)
              have hO7 := hid (ownsRow_below (below_of_grown HG.out) HRO.out)
              have hE7 := hid (HENV.out.below (below_of_grown HG.out))
              have hB7 := hid (b_call (below_of_grown HG.out) HBR.out)
              have hgo : wo.heap.size < wr.heap.size := by have h9 : wo.heap.size < wr.heap.size := (HRO.out.lt _ rfl).2; exact h9
              have HLS2 := hid HLS.out
              obtain ⟨lk, hlk⟩ : ∃ b : Bool, (lostTo l ss k || within' l lo j 0 true) = b := ⟨_, rfl⟩
              rw [hlk] at hE7
              have HLK := hid (HLS.out.trans hlk)
              obtain ⟨wq, rfl⟩ : ∃ wq : World, wq = wr := ⟨_, rfl⟩
              clear hlk HRC HRO HENV HBR HG hc5
              go_loopw [17] (fun nv wr => ∃ (n : Nat) (nx : List Bool), n ≤ nb ∧ nv = .int .i64 (n : Int) ∧ nx.length = nb ∧ wr.ownsRow wq.heap.size 4 1 (.slice (some ⟨wq.heap.size, 0, none⟩) nb nb) nb (nx.map Value.bool) ∧ NextTo cs os nb n 0 nx ∧ CEnv w.heap.size wb.heap.size l (.slice none 0 0) lk wr ∧
                  wr.ownsRow (wb.heap.size + 1) 4 1 (.slice (some ⟨g, 0, none⟩) nb nb) nb (cs.map Value.bool) ∧ wr.ownsRow wo.heap.size 4 1 (.slice (some ⟨wo.heap.size, 0, none⟩) nb nb) nb (os.map Value.bool) ∧ Below wb.heap.size wb wr) (fun nv _ => nb - (intOf nv).toNat)
              case atStart => exact ⟨0, _, Nat.zero_le _, by simp, by simp, HOWN.out, NextTo.none cs os nb, hE7.out, hR7.out, hO7.out, hB7.out⟩
              case round =>
                obtain ⟨n, nx, hn, rfl, hnl, hrn, hnt, henv, hrc, hro, hbr⟩ := hrel
                have HNL := hid hnl
                have HRN := hid hrn
                have HNT := hid hnt
                have HENV := hid henv
                have HRC := hid hrc
                have HRO := hid hro
                have HBR := hid hbr
                clear hnl hrn hnt henv hrc hro hbr HOWN hR7 hO7 hE7 hB7
                by_cases hnlt : n < nb
                · go_wp2
                  obtain ⟨wp, rfl⟩ : ∃ wp : World, wp = wr := ⟨_, rfl⟩
                  obtain ⟨cn, hcn⟩ : ∃ b : Bool, cs[n]?.getD false = b := ⟨_, rfl⟩
                  have HCN := hid hcn
                  clear hcn
                  go_loopw [18] (fun sv wr => ∃ (s : Nat) (nx : List Bool), s ≤ nb ∧ (cn = true ∨ s = 0) ∧ sv = .int .i64 (s : Int) ∧ nx.length = nb ∧ wr.ownsRow wq.heap.size 4 1 (.slice (some ⟨wq.heap.size, 0, none⟩) nb nb) nb (nx.map Value.bool) ∧ NextTo cs os nb n s nx ∧ CEnv w.heap.size wb.heap.size l (.slice none 0 0) lk wr ∧
                      wr.ownsRow (wb.heap.size + 1) 4 1 (.slice (some ⟨g, 0, none⟩) nb nb) nb (cs.map Value.bool) ∧ wr.ownsRow wo.heap.size 4 1 (.slice (some ⟨wo.heap.size, 0, none⟩) nb nb) nb (os.map Value.bool) ∧ Below wb.heap.size wb wr) (fun sv _ => nb - (intOf sv).toNat)
                  case atStart => exact ⟨0, nx, Nat.zero_le _, .inr rfl, rfl, HNL.out, HRN.out, HNT.out, HENV.out, HRC.out, HRO.out, HBR.out⟩
                  case round =>
                    clear HNL HRN HNT HENV HRC HRO HBR
                    obtain ⟨s, nx, hs, hs0, rfl, hnl, hrn, hnt, henv, hrc, hro, hbr⟩ := hrel
                    have HS0 := hid hs0
                    have HNL := hid hnl
                    have HRN := hid hrn
                    have HNT := hid hnt
                    have HENV := hid henv
                    have HRC := hid hrc
                    have HRO := hid hro
                    have HBR := hid hbr
                    have hcc := (hrc.cellAt n (by omega)).trans (show _ = some (Value.bool cn) by rw [← HCN.out]; simp [HCL.out, hnlt])
                    have n0 : (0 : Int) ≤ (n : Int) := by omega
                    have n1 : (n : Int) < (nb : Int) := by omega
                    clear hs0 hnl hrn hnt henv hrc hro hbr
                    by_cases hslt : s < nb
                    · cases cn with
                      | false =>
                        have hs0 : s = 0 := by rcases HS0.out with e | e; · cases e
                                               · exact e
                        subst hs0
                        go_wp2
                        go_roundw
                        case rel => exact ⟨n + 1, nx, by omega, by go_num, HNL.out, HRN.out, HNT.out.skip (by unfold inB; rw [HCN.out]; simp), HENV.out, HRC.out, HRO.out, HBR.out⟩
                        case measure => simp [intOf]; omega
                      | true =>
                        obtain ⟨ob, hob⟩ : ∃ b : Bool, os[s]?.getD false = b := ⟨_, rfl⟩
                        have hco := (HRO.out.cellAt s (by omega)).trans (show _ = some (Value.bool ob) by rw [← hob]; simp [HOL.out, hslt])
                        have HOB := hid hob
                        obtain ⟨i, hi⟩ : ∃ i, (n + s) % nb = i := ⟨_, rfl⟩
                        have hin : i < nb := by rw [← hi]; exact Nat.mod_lt _ (by omega)
                        have hti : ((n : Int) + (s : Int)).tmod (nb : Int) = (i : Int) := by rw [Int.tmod_eq_emod_of_nonneg (by omega), ← hi]; simp
                        have hcx := (HRN.out.cellAt i (by omega)).trans (show _ = some (Value.bool (nx[i]?.getD false)) by simp [HNL.out, hin])
                        have hfx := HRN.out.frozenAt i
                        have f3 : IntKind.i64.wrap (i : Int) = (i : Int) := IntWalk.i64_in _ (by omega)
                        have s0 : (0 : Int) ≤ (s : Int) := by omega
                        have s1 : (s : Int) < (nb : Int) := by omega
                        have i0 : (0 : Int) ≤ (i : Int) := by omega
                        have i1 : (i : Int) < (nb : Int) := by omega
                        have hnz : ¬ (nb : Int) = 0 := by omega
                        have hnz2 : ¬ nb = 0 := by omega
                        have HI := hid hi
                        clear hob hi
                        cases ob with
                        | false =>
                          go_wp2
                          go_roundw
                          case rel => exact ⟨s + 1, nx, by omega, by simp, by go_num, HNL.out, HRN.out, HNT.out.no (by unfold inB; rw [HOB.out]; simp), HENV.out, HRC.out, HRO.out, HBR.out⟩
                          case measure => simp [intOf]; omega
                        | true =>
                          have hst := HRN.out.stored i (.bool true)
                          have HST := hid hst
                          clear hst
                          go_wp2
                          go_roundw
                          case rel =>
                            refine ⟨s + 1, nx.set i true, by omega, by simp, by go_num, by simp [HNL.out], by rw [List.map_set]; exact HST.out.1, ?_, HENV.out.grown HST.out.2 (fun r e => by cases e; omega), HRC.out.kept HST.out.2 (.inr (by simp [Value.ownBlock]; omega)), HRO.out.kept HST.out.2 (.inr (by simp [Value.ownBlock]; omega)), HBR.out.setCell (p := ⟨wq.heap.size, i, none⟩) (by simp; omega) _⟩
                            have := HNT.out.yes HNL.out (by omega) (by unfold inB; exact HCN.out) (by unfold inB; exact HOB.out)
                            rwa [HI.out] at this
                          case measure => simp [intOf]; omega
                    · obtain rfl : s = nb := by omega
                      go_wp2
                      go_roundw
                      case rel => exact ⟨n + 1, nx, by omega, by go_num, HNL.out, HRN.out, HNT.out.row HOL.out, HENV.out, HRC.out, HRO.out, HBR.out⟩
                      case measure => simp [intOf]; omega
                · obtain rfl : n = nb := by omega
                  go_wp2
                  go_roundw
                  case rel => exact ⟨k + 1, wq.heap.size, nx, by omega, by go_num, rfl, HNL.out, ownsRow_low HRN.out (by omega), HNX.out os nx HON.out HNT.out, by rw [HLK.out]; exact HENV.out, HBR.out⟩
                  case measure => simp [intOf]; omega
        · obtain rfl : k = ss.length := by omega
          obtain ⟨lk, hlk⟩ : ∃ b : Bool, lostTo l ss ss.length = b := ⟨_, rfl⟩
          have henv := HENV.out
          rw [hlk] at henv
          have HENV := hid henv
          have HLKK := hid hlk
          clear henv hlk
          go_wp2
          obtain ⟨wz, rfl⟩ : ∃ wz : World, wz = wr := ⟨_, rfl⟩
          have hbz : wb.heap.size < wz.heap.size := by have h9 := HROW.out.lt _ rfl; omega
          have hgz : g < wz.heap.size := (HROW.out.lt g rfl).2
          go_loopw [19] (fun nv wr => ∃ (n : Nat) (av : Option Addr) (cv : Nat), n ≤ nb ∧ nv = .int .i64 (n : Int) ∧ wr.ownsRow wz.heap.size 3 1 (.slice av (numsB cs n).length cv) (numsB cs n).length (cellsN (numsB cs n)) ∧ CEnv w.heap.size wb.heap.size l (.slice av (numsB cs n).length cv) lk wr ∧
              wr.ownsRow (wb.heap.size + 1) 4 1 (.slice (some ⟨g, 0, none⟩) nb nb) nb (cs.map Value.bool) ∧ Below wb.heap.size wb wr ∧ wz.heap.size ≤ wr.heap.size) (fun nv _ => nb - (intOf nv).toNat)
          case atStart => exact ⟨0, none, 0, Nat.zero_le _, rfl, ⟨by simp [numsB, cellsN], .inl ⟨by simp [numsB], by simp [numsB]⟩⟩, by simpa [numsB] using HENV.out, HROW.out, HBR.out, Nat.le_refl _⟩
          case round =>
            clear HENV HROW HBR
            obtain ⟨n, av, cv, hn, rfl, hv, henv, hrc, hbr, hzz⟩ := hrel
            have HV := hid hv
            have HENV := hid henv
            have HRC := hid hrc
            have HBR := hid hbr
            clear hv henv hrc hbr
            by_cases hnlt : n < nb
            · obtain ⟨cn, hcn⟩ : ∃ b : Bool, cs[n]?.getD false = b := ⟨_, rfl⟩
              have hcc := (HRC.out.cellAt n (by omega)).trans (show _ = some (Value.bool cn) by rw [← hcn]; simp [HCL.out, hnlt])
              have hsu := numsB_succ cs n
              rw [hcn] at hsu
              have hlen := numsB_len cs n
              have n0 : (0 : Int) ≤ (n : Int) := by omega
              have n1 : (n : Int) < (nb : Int) := by omega
              obtain ⟨q0, q0f⟩ := HENV.out.out
              cases cn with
              | false =>
                simp only [Bool.false_eq_true, if_false] at hsu
                have HSU := hid hsu
                clear hcn hsu
                go_wp2
                go_roundw
                case rel => exact ⟨n + 1, av, cv, by omega, by go_num, by rw [HSU.out]; exact HV.out, by rw [HSU.out]; exact HENV.out, HRC.out, HBR.out, hzz⟩
                case measure => simp [intOf]; omega
              | true =>
                simp only [if_true] at hsu
                have HSU := hid hsu
                clear hcn hsu
                obtain ⟨ns, hns⟩ : ∃ ns, numsB cs n = ns := ⟨_, rfl⟩
                rw [hns] at HV HENV HSU q0 hlen
                have hg1 := ownsRow_block HV.out
                clear hns
                go_wp2_with (at_builtin; refine wpList_append_own _ rfl _ _ 35 rfl wz.heap.size 3 iI (.int .i64 0) 1 8 Try.underlying35 hiI hzI0 hzI1 hzI2 rfl (by decide) _ _ _ rfl (HV.out.alloc _) ⟨wr.heap.size, 0, none⟩ 1 1 [.int .i64 (n : Int)] rfl rfl (cell_one_new _ _ _) (by intro u hu; simp at hu; subst hu; rfl) (by unfold maxLen; omega) (by omega) (by simp; omega) ?_; intro v' w3 hown3 hg3 hnil; have h3 : w3.ownsRow wz.heap.size 3 1 v' (ns.length + 1) (cellsN (ns ++ [n])) := (by simpa [cellsN] using hown3); obtain ⟨a3, c3, rfl, _⟩ := rowInts h3; have HE3 := hid ((HENV.out.below (b_alloc (Below.refl _ _) (.cells #[.int .i64 (n : Int)] 3))).grown hg3 (fun r e => by have := hg1 r e; omega)); have HR3 := hid ((HRC.out.alloc (.cells #[.int .i64 (n : Int)] 3)).kept hg3 (.inr (fun e => by have h9 := hg1 g e.symm; omega))); have HB3 := hid ((b_alloc HBR.out (.cells #[.int .i64 (n : Int)] 3)).grown hg3 (by have := HBR.out.size; simp; omega) (fun r e => by have := hg1 r e; omega)); have H3 := hid h3; have hz3 : wz.heap.size ≤ w3.heap.size := (by have := hg3.size; simp at this; omega); obtain ⟨q2, q2f⟩ := HE3.out.out; clear hown3 hg3 hnil h3 q0 q0f)
                have hso := HE3.out.setOut (.slice a3 (ns.length + 1) c3)
                go_roundw
                case rel =>
                  refine ⟨n + 1, a3, c3, by omega, by go_num, by rw [HSU.out, List.length_append]; exact H3.out.kept hso.2 (.inr (fun e => by have h9 : wz.heap.size ≤ wb.heap.size := (H3.out.lt _ e).1; omega)), by rw [HSU.out, List.length_append]; exact hso.1, HR3.out.kept hso.2 (.inr (by simp [Value.ownBlock]; have h9 : wb.heap.size + 1 ≤ g := (HR3.out.lt _ rfl).1; omega)), HB3.out.setCell (p := ⟨wb.heap.size, 0, none⟩) (Nat.le_refl _) _, by simp; omega⟩
                case measure => simp [intOf]; omega
            · obtain rfl : n = nb := by omega
              obtain ⟨q0, q0f⟩ := HENV.out.out
              obtain ⟨q1, q1f⟩ := HENV.out.lost
              obtain ⟨⟨k0, k1⟩, ⟨k2, k3⟩⟩ := HENV.out.res
              obtain ⟨ns, hns⟩ : ∃ ns, numsB cs n = ns := ⟨_, rfl⟩
              have hmem := fun q => (numsB_mem (q := q) HCL.out)
              have hasc := numsB_asc cs n
              have hlen := numsB_len cs n
              rw [hns] at HV q0 hmem hasc hlen
              obtain ⟨a3, c3, e3, hi3, _⟩ := rowInts HV.out
              cases e3
              have HMEM := hid hmem
              have HASC := hid hasc
              have HI := hid hi3
              clear hmem hasc hi3 hns
              have k4 := (World.cell?_setCell_other wr ⟨w.heap.size + 1, 0, none⟩ ⟨w.heap.size + 1, 1, none⟩ (.slice av ns.length cv) (by simp)).trans k2
              go_wp2
              have hg1 : wr.grownBy (wr.setCell ⟨w.heap.size + 1, 0, none⟩ (.slice av ns.length cv)) (some (w.heap.size + 1)) := ⟨rfl, rfl, rfl, by simp, fun k hk hne => Below.heap_setCell wr _ _ k (fun e => hne (by rw [e]))⟩
              have hg2 : (wr.setCell ⟨w.heap.size + 1, 0, none⟩ (.slice av ns.length cv)).grownBy ((wr.setCell ⟨w.heap.size + 1, 0, none⟩ (.slice av ns.length cv)).setCell ⟨w.heap.size + 1, 1, none⟩ (.bool lk)) (some (w.heap.size + 1)) := ⟨rfl, rfl, rfl, by simp, fun k hk hne => Below.heap_setCell _ _ _ k (fun e => hne (by rw [e]))⟩
              have z0 := (World.cell?_setCell_other (wr.setCell ⟨w.heap.size + 1, 0, none⟩ (.slice av ns.length cv)) ⟨w.heap.size + 1, 1, none⟩ ⟨w.heap.size + 1, 0, none⟩ (.bool lk) (by simp)).trans (World.cell?_setCell_same' wr ⟨w.heap.size + 1, 0, none⟩ (.slice av ns.length cv) (by rw [k0]; rfl))
              have z1 := World.cell?_setCell_same' (wr.setCell ⟨w.heap.size + 1, 0, none⟩ (.slice av ns.length cv)) ⟨w.heap.size + 1, 1, none⟩ (.bool lk) (by rw [k4]; rfl)
              have hBw := b_call HBR.out HB2.out
              have hbf := (hBw.grown hg1 hBw.size (fun k e => by cases e; omega)).grown hg2 (by have := hBw.size; simp; omega) (fun k e => by cases e; omega)
              have hbo := HENV.out.apart
              have hvb : (Value.slice av ns.length cv).ownBlock ≠ some (w.heap.size + 1) := fun e => by have h9 : wz.heap.size ≤ w.heap.size + 1 := (HV.out.lt _ e).1; omega
              obtain ⟨_, c9, e9, hi9, _⟩ := rowInts ((HV.out.kept hg1 (.inr hvb)).kept hg2 (.inr hvb))
              cases e9
              have HI9 := hid hi9
              clear hi9 HI
              generalize World.setCell (World.setCell wr ⟨w.heap.size + 1, 0, none⟩ (.slice av ns.length cv)) ⟨w.heap.size + 1, 1, none⟩ (.bool lk) = WF at *
              refine ⟨rfl, .tuple #[.agg #[.slice av ns.length cv, .bool lk], .int .i64 0], ?_, ns, av, cv, by rw [HLKK.out], HI9.out, HASC.out, fun q => (HMEM.out q).trans (HSET.out q), by omega, hbf⟩
              simp [results, Try.f33, go_sem, z0, z1]
end Go.Proofs.Ytlocdkjnefmiaaa
