/-
  A range over the steps of a machine, whose body always goes on.
-/
import Derived.Test.YtbfhgcnfhjhgcaaSteps
namespace Go.Proofs.Ytbfhgcnfhjhgcaa
open Go.RowKit Go.Shelf
set_option linter.unusedVariables false
set_option linter.unusedSimpArgs false

theorem row_own {W W' : World} {base t size n : Nat} {v : Value} {xs : List Value} {row : Option Nat} (h : W.ownsRow base t size v n xs) (hg : W.grownBy W' row) (hr : ∀ r, row = some r → ∃ o : Obj, W.heap[r]? = some o ∧ o.isCells = false) : W'.ownsRow base t size v n xs := by
  refine h.kept hg ?_
  rcases h.2 with ⟨rfl, _⟩ | ⟨g, cap, cur, rfl, hb, hc, _⟩
  · exact .inl rfl
  · refine .inr (fun e => ?_)
    obtain ⟨o, ho, hf⟩ := hr g e.symm
    rw [hc] at ho; cases ho; cases hf
theorem Mac.own' {W W' : World} {base b g : Nat} {q : Sl} {s : St} {row : Option Nat} (h : Mac W base b g q s) (hg : W.grownBy W' row) (hr : ∀ r, row = some r → ∃ o : Obj, W.heap[r]? = some o ∧ o.isCells = false) : Mac W' base b g q s := by
  refine ⟨(hg.block b h.blt (fun e => ?_)).trans h.blk, h.qa, row_own h.own hg hr, row_own h.tap hg hr, row_own h.prn hg hr, h.hb, h.bg, h.nb, h.ng, h.pb, h.pg, h.pn⟩
  obtain ⟨o, ho, hf⟩ := hr b e.symm
  have hk : W.heap[b]? = some (.cells (stCells q s) 83 (0, 0)) := h.blk
  rw [hk] at ho; cases ho; cases hf
theorem cell_own {W W' : World} {row : Option Nat} {a : Addr} {v : Value} (h : W.cell? a = some v) (hg : W.grownBy W' row) (hr : ∀ r, row = some r → ∃ o : Obj, W.heap[r]? = some o ∧ o.isCells = false) : W'.cell? a = W.cell? a := by
  have hlt := World.block_lt_of_cell? W a h
  refine World.cell?_of_block (hg.block _ hlt (fun e => ?_))
  obtain ⟨o, ho, hf⟩ := hr a.block e.symm
  unfold World.cell? at h
  rw [ho] at h
  cases o <;> simp [Obj.isCells] at hf h
theorem put_row {W : World} {l : Nat} {o : Obj} (hl : W.heap[l]? = some o) (ho : o.isCells = false) : ∀ r, some l = some r → ∃ o : Obj, W.heap[r]? = some o ∧ o.isCells = false := fun r e => by cases e; exact ⟨o, hl, ho⟩
theorem Kp.trans {base b g bM : Nat} {q : Sl} {s s' : St} {A B C : World} (h : Kp base b g bM q s A B) (k : Mac B base b g q s → Kp base b g bM q s B C) : Kp base b g bM q s A C :=
  ⟨(k h.1).1, (k h.1).2.trans h.2⟩

variable {n : Nat}
theorem range_steps {g0 : Operand} {ps : Array Tmp} {assign body : Code} {Q : Exit → Act → World → Prop} {a : Act} {w : World} (hn : 1 ≤ n) (N : Nat) (hN : N ≤ 5000) (base b g bT bM : Nat) (s0 : St) (hs : SOk s0) (q0 : Sl)
    (hg : a.eval g0 = .func (.func 70) #[] #[.pointer (some ⟨bT, 0, none⟩), .pointer (some ⟨bM, 0, none⟩)]) (hps : ps.size = 1)
    (cT : w.cell? ⟨bT, 0, none⟩ = some (.int .i64 (N : Int))) (cM : w.cell? ⟨bM, 0, none⟩ = some (.pointer (some ⟨b, 0, none⟩))) (hMb : bM ≠ b) (hMg : bM ≠ g) (hMq : blkOf q0.c ≠ some bM)
    (hm : Mac w base b g q0 s0)
    (I : List Stp → Sl → World → Prop) (hI : ∀ q, OwnFrom w.heap.size (fun pre W => I pre q W)) (hIM : ∀ pre q q' s A B, I pre q A → Mac A base b g q s → Mv base b g q q' A B → I pre q' B) (h0 : I [] q0 w) (a₁ : Stp → Act)
    (hassign : ∀ (l : Nat) (x : Stp) (W : World) (K : Act → World → Prop), K (a₁ x) W → assign.wpIn (Fence.wide.inRound l) 0 Try.prog (Exit.then K (fun _ _ _ => False)) { tmps := (ps.zip #[stpV x]).foldl (fun t (p, v) => t.setIfInBounds p v) a.tmps, defers := [] } W)
    (hbody : ∀ (l : Nat) (pre : List Stp) (q : Sl) (s : St) (x : Stp) (W : World), I pre q W → Mac W base b g q s → body.wpIn (Fence.wide.inRound l) 0 Try.prog (fun e a' W' => e = .normal ∧ KeepsFrom w.heap.size W W' ∧ I (pre ++ [x]) q W' ∧ Kp base b g bM q s W W') (a₁ x) W)
    (hdone : ∀ (D : Nat) (q : Sl) (W : World), w.heap.size ≤ D → Mac W base b g q (St.run N s0) → I (St.trace N s0) q W → W.heap[D]? = some (.deferred (some [])) → Q .normal { a with defers := { target := .collected D, args := #[] } :: a.defers } W) :
    (Code.rangeFunc g0 ps assign body).wpIn Fence.wide n Try.prog Q a w := by
  refine wpIn_rangeFunc ?_
  intro fn hfn
  let L : LoopState → Option Code → Loop := fun st pe => ⟨st, pe, fn, a.tmps, ps, assign, body, w.heap.size⟩
  let V : World := (w.alloc (.deferred (some []))).alloc (.loop (L .ready none))
  have hbooks : Books w.heap.size (L .ready none) V := by
    have e1 := World.alloc_heap_new (w.alloc (.deferred (some []))) (.loop (L .ready none))
    rw [World.size_alloc] at e1
    exact ⟨e1, (Below.heap_alloc _ _ _ (by simp)).trans (World.alloc_heap_new w _)⟩
  have hV : V.heap.size = w.heap.size + 2 := by simp [V]
  have hwV : Below w.heap.size w V := b_alloc (b_alloc (Below.refl _ w) _) _
  have hbl := hm.blt
  have hgl := hm.glt
  have hML : bM < w.heap.size := World.block_lt_of_cell? w ⟨bM, 0, none⟩ cM
  have hql : ∀ r, blkOf q0.c = some r → r < w.heap.size := fun r e => (hm.prn.lt r (by rw [own_slice]; exact e)).2
  have eg : ∀ args w, (callFunc 70 args).run Try.prog w = .ok (.enter 70 args) w := enters_of Try.func70 (by kernel_rfl) rfl
  refine ⟨w.heap.size + 1, [⟨.collected w.heap.size, #[]⟩], V, ⟨.fn (.func 70) #[.pointer (some ⟨bT, 0, none⟩), .pointer (some ⟨bM, 0, none⟩)], #[.func (.yield (w.heap.size + 1)) #[] #[]]⟩, V, 70, #[.func (.yield (w.heap.size + 1)) #[] #[], .pointer (some ⟨bT, 0, none⟩), .pointer (some ⟨bM, 0, none⟩)], V, run_enterLoop_outer _ _ _ _ _, ?_, ?_, ?_, fun _ => hn, ?_⟩
  · simp only [resolve, hg]; simp [go_sem]
  · intro f' hf'; trivial
  · simp [invoke, go_sem, eg]
  let J : List Stp → Sl → World → Prop := fun pre q W => I pre q W ∧ Books w.heap.size (L .ready none) W ∧ blkOf q.c ≠ some w.heap.size ∧ blkOf q.c ≠ some (w.heap.size + 1)
  have hcalls := steps1_any N hN base b g (w.heap.size + 1) bT bM s0 hs J q0 V ?yield ?moves (cell_later hwV cT) (cell_later hwV cM) hMb hMg hMq (hm.below hwV) ⟨(hI q0).alloc _ ((hI q0).alloc _ h0), hbooks, fun e => by have := hql _ e; omega, fun e => by have := hql _ e; omega⟩
  case moves =>
    rintro pre q q' s A B ⟨hi, hb, h1, h2⟩ hma hv
    have hl1 := (Array.getElem?_eq_some_iff.1 hb.1).1
    have hl0 := (Array.getElem?_eq_some_iff.1 hb.2).1
    refine ⟨hIM _ _ _ _ _ _ hi hma hv, ⟨(hv.oth _ hl1 (by omega) (by omega) h2).trans hb.1, (hv.oth _ hl0 (by omega) (by omega) h1).trans hb.2⟩, fun e => ?_, fun e => ?_⟩
    · rcases hv.new _ e with x | x
      · exact h1 x
      · omega
    · rcases hv.new _ e with x | x
      · exact h2 x
      · omega
  case yield =>
    rintro pre q s x W ⟨hi, hbk, hq1, hq2⟩ hmac hlen
    refine ⟨fn, _, assign, body, run_yield hbk.1 (by show 1 = ps.size; exact hps.symm), roundIn_of_wpIn hfn (hassign _ x W _ ?_)⟩
    have hlt := (Array.getElem?_eq_some_iff.1 hbk.1).1
    refine ⟨_, run_beginRound hbk.1 rfl, ?_⟩
    have hbb := hbk.turn (L .busy none)
    have hgp := grownBy_putObj' W (w.heap.size + 1) (.loop (L .busy none))
    have hpr := put_row hbk.1 rfl
    have hmac1 := hmac.own' hgp hpr
    have hi1 := (hI q).putObj (.loop (L .busy none)) hi (by omega) hbk.1 rfl
    refine wpIn_mono (hbody _ pre q s x _ hi1 hmac1) ?_
    rintro e a3 W3 ⟨rfl, k3, i3, kp3⟩
    have hb3 : Books w.heap.size (L .busy none) W3 := hbb.kept k3
    have r3 : (Instr.endRound (w.heap.size + 1) none).run Try.prog W3 = .ok (.bool true) (W3.putObj (w.heap.size + 1) (.loop (L .ready none))) := run_endRound (P := Try.prog) none hb3.1
    have hg3 := grownBy_putObj' W3 (w.heap.size + 1) (.loop (L .ready none))
    have hr3 := put_row hb3.1 rfl
    refine ⟨_, _, r3, rfl, ⟨(hI q).putObj (.loop (L .ready none)) i3 (by omega) hb3.1 rfl, hb3.turn _, hq1, hq2⟩, ?_⟩
    have hne : bM ≠ w.heap.size + 1 := by omega
    exact ⟨kp3.1.own' hg3 hr3, (World.cell?_of_block (a := ⟨bM, 0, none⟩) (World.putObj_heap_other hne)).trans (kp3.2.trans (World.cell?_of_block (a := ⟨bM, 0, none⟩) (World.putObj_heap_other hne)))⟩
  refine (callsIn_wide.2 hcalls).mono ?_
  rintro e W2 ⟨⟨v, rfl⟩, q', hm2, hi2, hb2, _, _⟩
  exact ⟨none, _, run_endLoop (P := Try.prog) hb2.1 (fun e => by cases e), hdone _ q' _ (Nat.le_refl _) (hm2.own' (grownBy_putObj' W2 (w.heap.size + 1) _) (put_row hb2.1 rfl)) ((hI q').putObj _ hi2 (by omega) hb2.1 rfl) (hb2.turn _).2⟩
theorem range_steps2 {g0 : Operand} {ps : Array Tmp} {assign body : Code} {Q : Exit → Act → World → Prop} {a : Act} {w : World} (hn : 1 ≤ n) (N : Nat) (hN : N ≤ 5000) (base b g bT bM : Nat) (s0 : St) (hs : SOk s0) (q0 : Sl)
    (hg : a.eval g0 = .func (.func 70) #[] #[.pointer (some ⟨bT, 0, none⟩), .pointer (some ⟨bM, 0, none⟩)]) (hps : ps.size = 1)
    (cT : w.cell? ⟨bT, 0, none⟩ = some (.int .i64 (N : Int))) (cM : w.cell? ⟨bM, 0, none⟩ = some (.pointer (some ⟨b, 0, none⟩))) (hMb : bM ≠ b) (hMg : bM ≠ g) (hMq : blkOf q0.c ≠ some bM)
    (hm : Mac w base b g q0 s0)
    (I : List Stp → Sl → World → Prop) (hI : ∀ q, OwnFrom w.heap.size (fun pre W => I pre q W)) (hIM : ∀ pre q q' s A B, I pre q A → Mac A base b g q s → Mv base b g q q' A B → I pre q' B) (h0 : I [] q0 w) (Ax : Stp → Act → World → Prop) (hAx : ∀ x a', OwnFrom w.heap.size (fun (_ : Unit) W => Ax x a' W))
    (hassign : ∀ (l : Nat) (pre : List Stp) (q : Sl) (s : St) (x : Stp) (W : World) (K : Act → World → Prop), I pre q W → Mac W base b g q s → (∀ a' W', KeepsFrom w.heap.size W W' → I pre q W' → Kp base b g bM q s W W' → Ax x a' W' → K a' W') → assign.wpIn (Fence.wide.inRound l) 0 Try.prog (Exit.then K (fun _ _ _ => False)) { tmps := (ps.zip #[stpV x]).foldl (fun t (p, v) => t.setIfInBounds p v) a.tmps, defers := [] } W)
    (hbody : ∀ (l : Nat) (pre : List Stp) (q : Sl) (s : St) (x : Stp) (a' : Act) (W : World), I pre q W → Mac W base b g q s → Ax x a' W → pre.length < N → body.wpIn (Fence.wide.inRound l) 0 Try.prog (fun e a'' W' => e = .normal ∧ KeepsFrom w.heap.size W W' ∧ I (pre ++ [x]) q W' ∧ Kp base b g bM q s W W') a' W)
    (hdone : ∀ (D : Nat) (q : Sl) (W : World), w.heap.size ≤ D → Mac W base b g q (St.run N s0) → I (St.trace N s0) q W → W.heap[D]? = some (.deferred (some [])) → Q .normal { a with defers := { target := .collected D, args := #[] } :: a.defers } W) :
    (Code.rangeFunc g0 ps assign body).wpIn Fence.wide n Try.prog Q a w := by
  refine wpIn_rangeFunc ?_
  intro fn hfn
  let L : LoopState → Option Code → Loop := fun st pe => ⟨st, pe, fn, a.tmps, ps, assign, body, w.heap.size⟩
  let V : World := (w.alloc (.deferred (some []))).alloc (.loop (L .ready none))
  have hbooks : Books w.heap.size (L .ready none) V := by
    have e1 := World.alloc_heap_new (w.alloc (.deferred (some []))) (.loop (L .ready none))
    rw [World.size_alloc] at e1
    exact ⟨e1, (Below.heap_alloc _ _ _ (by simp)).trans (World.alloc_heap_new w _)⟩
  have hV : V.heap.size = w.heap.size + 2 := by simp [V]
  have hwV : Below w.heap.size w V := b_alloc (b_alloc (Below.refl _ w) _) _
  have hbl := hm.blt
  have hgl := hm.glt
  have hML : bM < w.heap.size := World.block_lt_of_cell? w ⟨bM, 0, none⟩ cM
  have hql : ∀ r, blkOf q0.c = some r → r < w.heap.size := fun r e => (hm.prn.lt r (by rw [own_slice]; exact e)).2
  have eg : ∀ args w, (callFunc 70 args).run Try.prog w = .ok (.enter 70 args) w := enters_of Try.func70 (by kernel_rfl) rfl
  refine ⟨w.heap.size + 1, [⟨.collected w.heap.size, #[]⟩], V, ⟨.fn (.func 70) #[.pointer (some ⟨bT, 0, none⟩), .pointer (some ⟨bM, 0, none⟩)], #[.func (.yield (w.heap.size + 1)) #[] #[]]⟩, V, 70, #[.func (.yield (w.heap.size + 1)) #[] #[], .pointer (some ⟨bT, 0, none⟩), .pointer (some ⟨bM, 0, none⟩)], V, run_enterLoop_outer _ _ _ _ _, ?_, ?_, ?_, fun _ => hn, ?_⟩
  · simp only [resolve, hg]; simp [go_sem]
  · intro f' hf'; trivial
  · simp [invoke, go_sem, eg]
  let J : List Stp → Sl → World → Prop := fun pre q W => I pre q W ∧ Books w.heap.size (L .ready none) W ∧ blkOf q.c ≠ some w.heap.size ∧ blkOf q.c ≠ some (w.heap.size + 1)
  have hcalls := steps1_any N hN base b g (w.heap.size + 1) bT bM s0 hs J q0 V ?yield ?moves (cell_later hwV cT) (cell_later hwV cM) hMb hMg hMq (hm.below hwV) ⟨(hI q0).alloc _ ((hI q0).alloc _ h0), hbooks, fun e => by have := hql _ e; omega, fun e => by have := hql _ e; omega⟩
  case moves =>
    rintro pre q q' s A B ⟨hi, hb, h1, h2⟩ hma hv
    have hl1 := (Array.getElem?_eq_some_iff.1 hb.1).1
    have hl0 := (Array.getElem?_eq_some_iff.1 hb.2).1
    refine ⟨hIM _ _ _ _ _ _ hi hma hv, ⟨(hv.oth _ hl1 (by omega) (by omega) h2).trans hb.1, (hv.oth _ hl0 (by omega) (by omega) h1).trans hb.2⟩, fun e => ?_, fun e => ?_⟩
    · rcases hv.new _ e with x | x
      · exact h1 x
      · omega
    · rcases hv.new _ e with x | x
      · exact h2 x
      · omega
  case yield =>
    rintro pre q s x W ⟨hi, hbk, hq1, hq2⟩ hmac hlen
    refine ⟨fn, _, assign, body, run_yield hbk.1 (by show 1 = ps.size; exact hps.symm), roundIn_of_wpIn hfn (hassign _ pre q s x W _ hi hmac fun a' Wa ka ia kpa xa => ?_)⟩
    have hba := hbk.kept ka
    have hlt := (Array.getElem?_eq_some_iff.1 hba.1).1
    refine ⟨_, run_beginRound hba.1 rfl, ?_⟩
    have hbb := hba.turn (L .busy none)
    have hgp := grownBy_putObj' Wa (w.heap.size + 1) (.loop (L .busy none))
    have hpr := put_row hba.1 rfl
    have hmac1 := kpa.1.own' hgp hpr
    have hi1 := (hI q).putObj (.loop (L .busy none)) ia (by omega) hba.1 rfl
    have hx1 := (hAx x a').putObj (s := ()) (.loop (L .busy none)) xa (by omega) hba.1 rfl
    refine wpIn_mono (hbody _ pre q s x a' _ hi1 hmac1 hx1 hlen) ?_
    rintro e a3 W3 ⟨rfl, k3, i3, kp3⟩
    have hb3 : Books w.heap.size (L .busy none) W3 := hbb.kept k3
    have r3 : (Instr.endRound (w.heap.size + 1) none).run Try.prog W3 = .ok (.bool true) (W3.putObj (w.heap.size + 1) (.loop (L .ready none))) := run_endRound (P := Try.prog) none hb3.1
    have hg3 := grownBy_putObj' W3 (w.heap.size + 1) (.loop (L .ready none))
    have hr3 := put_row hb3.1 rfl
    refine ⟨_, _, r3, rfl, ⟨(hI q).putObj (.loop (L .ready none)) i3 (by omega) hb3.1 rfl, hb3.turn _, hq1, hq2⟩, ?_⟩
    have hne : bM ≠ w.heap.size + 1 := by omega
    exact ⟨kp3.1.own' hg3 hr3, (World.cell?_of_block (a := ⟨bM, 0, none⟩) (World.putObj_heap_other hne)).trans (kp3.2.trans ((World.cell?_of_block (a := ⟨bM, 0, none⟩) (World.putObj_heap_other hne)).trans kpa.2))⟩
  refine (callsIn_wide.2 hcalls).mono ?_
  rintro e W2 ⟨⟨v, rfl⟩, q', hm2, hi2, hb2, _, _⟩
  exact ⟨none, _, run_endLoop (P := Try.prog) hb2.1 (fun e => by cases e), hdone _ q' _ (Nat.le_refl _) (hm2.own' (grownBy_putObj' W2 (w.heap.size + 1) _) (put_row hb2.1 rfl)) ((hI q').putObj _ hi2 (by omega) hb2.1 rfl) (hb2.turn _).2⟩
end Go.Proofs.Ytbfhgcnfhjhgcaa
