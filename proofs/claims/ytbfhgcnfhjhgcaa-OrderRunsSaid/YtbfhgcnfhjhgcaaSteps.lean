/-
  steps$1: the orders of a run, one after the other.
-/
import Derived.Laws.CopyOwn
import Derived.Deep.WholeRow
import Derived.ScopeJumps
import Derived.WalkMore
import Derived.Test.YtbfhgcnfhjhgcaaNext
import Derived.Test.YtbfhgcnfhjhgcaaEnds
import Derived.Test.YtbfhgcnfhjhgcaaDo2
namespace Go.Proofs.Ytbfhgcnfhjhgcaa
open Go.RowKit Go.Shelf
set_option linter.unusedVariables false
set_option linter.unusedSimpArgs false
attribute [local go_sem ↓] oper_store
attribute [local go_sem] Oper.semAt_some

def St.it : Nat → St → St
  | 0, s => s
  | k + 1, s => (St.it k s).step
/-- The first steps of a trace. -/
def St.pre (s : St) (k : Nat) : List Stp := (List.range k).map fun j => (s.it j).stp
theorem pre_succ (s : St) (k : Nat) : s.pre (k + 1) = s.pre k ++ [(s.it k).stp] := by simp [St.pre, List.range_succ]
theorem it_step : ∀ (k : Nat) (s : St), s.step.it k = s.it (k + 1)
  | 0, s => rfl
  | k + 1, s => by
    show (St.it k s.step).step = (St.it (k + 1) s).step
    rw [it_step k s]
theorem run_it : ∀ (k m : Nat) (s : St), (∀ j, j < k → (s.it j).ends = 0) → St.run (k + m) s = St.run m (s.it k)
  | 0, m, s, _ => by rw [Nat.zero_add]; rfl
  | k + 1, m, s, h => by
    have h0 : s.ends = 0 := h 0 (by omega)
    rw [show k + 1 + m = (k + m) + 1 by omega, St.run, if_pos h0, run_it k m s.step (fun j hj => by rw [it_step]; exact h (j + 1) (by omega)), it_step]
theorem pre_step (s : St) (k : Nat) : s.pre (k + 1) = s.stp :: s.step.pre k := by
  unfold St.pre
  rw [List.range_succ_eq_map, List.map_cons, List.map_map]
  congr 1
  exact List.map_congr_left fun j _ => by simp only [Function.comp_apply, it_step]
theorem trace_it : ∀ (k m : Nat) (s : St), (∀ j, j < k → (s.it j).ends = 0) → St.trace (k + m) s = s.pre k ++ St.trace m (s.it k)
  | 0, m, s, _ => by rw [Nat.zero_add]; rfl
  | k + 1, m, s, h => by
    have h0 : s.ends = 0 := h 0 (by omega)
    rw [show k + 1 + m = (k + m) + 1 by omega, St.trace, if_pos h0, trace_it k m s.step (fun j hj => by rw [it_step]; exact h (j + 1) (by omega)), it_step, pre_step]
    rfl
theorem it_ok {s : St} (h : SOk s) : ∀ k, (∀ j, j < k → (s.it j).ends = 0) → SOk (s.it k)
  | 0, _ => h
  | k + 1, he => step_ok (it_ok h k fun j hj => he j (by omega)) (he k (by omega))
abbrev stpV (x : Stp) : Value := .agg (spCells x.at_ x.od x.time x.til)
/-- What a round of the caller leaves: the machine as it was. -/
def Kp (base b g bM : Nat) (q : Sl) (s : St) (V V' : World) : Prop := Mac V' base b g q s ∧ V'.cell? ⟨bM, 0, none⟩ = V.cell? ⟨bM, 0, none⟩

theorem deed_done (s : St) (o : Od) : (s.deed o).done = s.done := by
  unfold St.deed; repeat' split
  all_goals rfl
theorem ending_any {base b g : Nat} {q : Sl} {s : St} (hm : ∃ w0 : World, Mac w0 base b g q s) {w : World} (hk : Blk w b 83 (stCells q s)) :
    Calls Try.prog 72 #[.pointer (some ⟨b, 0, none⟩), .agg (spCells s.at_ s.od s.time s.nxt.2)] w (Ret w (.int .i64 s.ends)) := by
  have c1 := hk.cell 1 _ rfl
  have c2 := hk.cell 2 _ rfl
  have c3 := hk.cell 3 _ rfl
  have c7 := hk.cell 7 _ rfl
  simp only [List.getElem_toArray, List.getElem_cons_succ, List.getElem_cons_zero] at c1 c2 c3 c7
  exact ending_raw b q.cb q.cc s.tape.length s.printed.length q.b q.c s.od.op s.od.fr s.od.to s.od.nx s.at_ s.time s.nxt.2 s.why s.taken s.ends (ends_endP s).symm w c1 c2 c3 c7

theorem spOf {w2 : World} {bM st : Nat} {v : Value} {v0 v1 v2 v3 v4 v5 v6 : Value} {t : TypeId} (cM : w2.cell? ⟨bM, 0, none⟩ = some v) (hb : Blk w2 st t #[v0, v1, v2, v3, v4, v5, v6]) (W : World) (h1 : W.heap[bM]? = w2.heap[bM]?) (h2 : W.heap[st]? = w2.heap[st]?) :
    W.cell? ⟨bM, 0, none⟩ = some v ∧ W.cell? ⟨st, 0, none⟩ = some v0 ∧ W.cell? ⟨st, 1, none⟩ = some v1 ∧ W.cell? ⟨st, 2, none⟩ = some v2 ∧ W.cell? ⟨st, 3, none⟩ = some v3 ∧ W.cell? ⟨st, 4, none⟩ = some v4 ∧ W.cell? ⟨st, 5, none⟩ = some v5 ∧ W.cell? ⟨st, 6, none⟩ = some v6 := by
  obtain ⟨⟨a, b, c, d⟩, e, f, g⟩ := spBlk (W := W) (h2.trans hb)
  exact ⟨(World.cell?_of_block (a := ⟨bM, 0, none⟩) h1).trans cM, a, b, c, d, e, f, g⟩

set_option maxRecDepth 100000 in
set_option maxHeartbeats 4000000 in
theorem steps1_any (N : Nat) (hN : N ≤ 5000) (base b g l bT bM : Nat) (s0 : St) (hs : SOk s0) (J : List Stp → Sl → World → Prop) (q0 : Sl) (W : World)
    (hY : ∀ pre q s x V, J pre q V → Mac V base b g q s → pre.length < N → YieldAt Fence.wide 0 Try.prog l #[stpV x] V fun e V' => e = .returned (.bool true) ∧ J (pre ++ [x]) q V' ∧ Kp base b g bM q s V V')
    (hJ : ∀ pre q q' s A B, J pre q A → Mac A base b g q s → Mv base b g q q' A B → J pre q' B)
    (cT : W.cell? ⟨bT, 0, none⟩ = some (.int .i64 (N : Int))) (cM : W.cell? ⟨bM, 0, none⟩ = some (.pointer (some ⟨b, 0, none⟩))) (hMb : bM ≠ b) (hMg : bM ≠ g) (hMq : blkOf q0.c ≠ some bM)
    (hm : Mac W base b g q0 s0) (h0 : J [] q0 W) :
    Calls Try.prog 70 #[.func (.yield l) #[] #[], .pointer (some ⟨bT, 0, none⟩), .pointer (some ⟨bM, 0, none⟩)] W fun e W' => (∃ v, e = .returned v) ∧ ∃ q', Mac W' base b g q' (St.run N s0) ∧ J (St.trace N s0) q' W' := by
  have HY := hid hY
  have HJ := hid hJ
  have HM := hid hm
  have H0 := hid h0
  have CM := hid cM
  have HMQ := hid hMq
  have HS := hid hs
  clear hY hJ hm h0 hMq hs
  go_enter Try.func70, Try.ntmps70
  go_wp2
  go_step3
  go_wp2
  go_step3
  go_wp2
  clear cT cM
  go_loopw [7] (fun iv wr => ∃ k : Nat, k ≤ N ∧ iv = .int .i64 (k : Int) ∧ ∃ q, Mac wr base b g q (s0.it k) ∧ J (s0.pre k) q wr ∧ wr.cell? ⟨bM, 0, none⟩ = some (.pointer (some ⟨b, 0, none⟩)) ∧ blkOf q.c ≠ some bM ∧ ∀ j, j < k → (s0.it j).ends = 0) (fun iv _ => N - (intOf iv).toNat)
  case atStart => exact ⟨0, Nat.zero_le _, rfl, q0, HM.out, H0.out, CM.out, HMQ.out, fun j hj => by omega⟩
  case round =>
    obtain ⟨k, hk, rfl, q, hmk, hjk, cM, hq, he⟩ := hrel
    by_cases hlt : k < N
    · have k1 : (k : Int) < (N : Int) := by omega
      have hsk := it_ok HS.out k he
      obtain ⟨s, hsx⟩ : ∃ s, s0.it k = s := ⟨_, rfl⟩
      rw [hsx] at hmk hsk
      have HMK := hid hmk
      have HJK := hid hjk
      have HSX := hid hsx
      have HE := hid he
      have HQ := hid hq
      have CMK := hid cM
      have HNX := hid (fun V (h : Mac V base b g q s) => next_any hsk (w := V) h)
      have HEN := hid (fun V (h : Blk V b 83 (stCells q s)) => ending_any ⟨wr, hmk⟩ (w := V) h)
      clear hmk hjk hsx he hq
      go_wp2_with (go_at_call 71; refine (HNX.out _ HMK.out).mono ?_; rintro e w1 ⟨rfl, hb1⟩; have HB1 := hid hb1; have hst := storeOk7 (Blk.new w1 z7 57) rfl; replace cM := cell_later hb1 cM; clear hb1)
      have hb12 := below_setRow (b_alloc (Below.refl w1.heap.size w1) (.cells z7 57)) (Nat.le_refl _) (spCells s.at_ s.od s.time s.nxt.2)
      have B2 := hid ((Blk.new w1 z7 57).row (spCells s.at_ s.od s.time s.nxt.2))
      have CM2 := hid (cell_later hb12 (cell_later HB1.out CMK.out))
      have HM2 := hid ((HMK.out.below HB1.out).below hb12)
      have HB2 := hid (b_call hb12 HB1.out)
      have hz12 : (World.setRow (w1.alloc (.cells z7 57)) w1.heap.size (spCells s.at_ s.od s.time s.nxt.2)).heap.size = w1.heap.size + 1 := by simp
      have lM : bM < w1.heap.size := World.block_lt_of_cell? _ ⟨bM, 0, none⟩ (cell_later HB1.out CMK.out)
      have lb := (HMK.out.below HB1.out).blt
      have lq : ∀ r, blkOf q.c = some r → r < w1.heap.size := fun r e => ((HMK.out.below HB1.out).prn.lt r (by rw [own_slice]; exact e)).2
      have lg := (HMK.out.below HB1.out).glt
      clear hst hb12 cM
      generalize World.setRow (w1.alloc (.cells z7 57)) w1.heap.size (spCells s.at_ s.od s.time s.nxt.2) = w2 at *
      have SOF := hid (spOf CM2.out B2.out)
      by_cases hz : s.ends = 0
      · rw [hz] at HEN
        go_region_held3 (fun w' => w'.cell? ⟨bM, 0, none⟩ = some (.pointer (some ⟨b, 0, none⟩)) ∧ w'.cell? ⟨w1.heap.size, 0, none⟩ = some (.int .i64 s.at_) ∧ w'.cell? ⟨w1.heap.size, 1, none⟩ = some (.int .i64 s.od.op) ∧ w'.cell? ⟨w1.heap.size, 2, none⟩ = some (.int .i64 s.od.fr) ∧ w'.cell? ⟨w1.heap.size, 3, none⟩ = some (.int .i64 s.od.to) ∧ w'.cell? ⟨w1.heap.size, 4, none⟩ = some (.int .i64 s.od.nx) ∧ w'.cell? ⟨w1.heap.size, 5, none⟩ = some (.int .i64 s.time) ∧ w'.cell? ⟨w1.heap.size, 6, none⟩ = some (.int .i64 s.nxt.2))
          (first | exact SOF.out _ ((Below.heap_setCell _ _ _ bM hMb).trans (HB3.out.block _ (by omega))) ((Below.heap_setCell _ _ _ w1.heap.size (by simp only; omega)).trans (HB3.out.block _ (by omega))) | exact SOF.out _ (HB3.out.block _ (by omega)) (HB3.out.block _ (by omega)) | exact SOF.out _ rfl rfl)
          (first | (go_at_call 72; refine (HEN.out _ (by first | exact HM2.out.blk | exact HM2.out.blk.drew)).mono ?_; rintro e w3 ⟨rfl, hb3⟩; have HB3 := hid (b_call hb3 (show Below w2.heap.size w2 _ from by (repeat (first | assumption | exact Below.refl _ _ | refine b_alloc ?_ _ | refine Below.drew ?_ | refine b_drewN ?_ _ | refine Below.setCell ?_ (by first | omega | (simp; done) | (simp; omega)) _ | refine b_call (by assumption) ?_)))); have c7 := (HM2.out.blk.call HB3.out).cell 7 _ rfl; have f7 := (HM2.out.blk.call HB3.out).frozen 7; clear hb3))
        have hw0 := (ends_zero hz).1
        have HM4 := hid (((HM2.out.below HB3.out)).setb 7 (.int .i64 0) s (by simp only [stCells]; rw [hw0]; rfl) rfl rfl rfl)
        have B4 := hid ((B2.out.call HB3.out).other (b' := b) (i := 7) (show w1.heap.size ≠ b by omega) (.int .i64 0))
        have CM4 := hid ((World.cell?_of_block (a := ⟨bM, 0, none⟩) ((Below.heap_setCell w3 ⟨b, 7, none⟩ (.int .i64 0) bM hMb).trans (HB3.out.block _ (by omega)))).trans CM2.out)
        have HV4 := hid ((Mv.below (q := q) (base := base) (b := b) (g := g) (b_call HB3.out HB2.out) HMK.out.base_le).trans (Mv.setb HMK.out.hb 7 (.int .i64 0)))
        have c7 := HM4.out.blk.cell 7 _ rfl
        simp only [List.getElem_toArray, List.getElem_cons_succ, List.getElem_cons_zero] at c7
        rw [hw0] at c7
        have hz4 : (World.setCell w3 ⟨b, 7, none⟩ (.int .i64 0)).heap.size = w3.heap.size := by simp
        have hz3 := HB3.out.size
        have cM := CM4.out
        obtain ⟨⟨s0, s1, s2, s3⟩, s4, s5, s6⟩ := spBlk B4.out
        have HDO := hid (fun V (h : Mac V base b g q s) => do_any hsk hz h)
        clear hw0 SOF HEN HNX
        generalize World.setCell w3 ⟨b, 7, none⟩ (.int .i64 0) = w4 at *
        go_wp2_with (go_at_call 73; refine (HDO.out _ HM4.out).mono ?_; rintro e w5 ⟨⟨u, rfl⟩, q5, hm5, hv5⟩; have HM5 := hid hm5; have HV5 := hid hv5; clear hm5 hv5)
        have e5M := HV5.out.oth bM (by omega) hMb hMg HQ.out
        have e5S := HV5.out.oth w1.heap.size (by omega) (by omega) (by omega) (fun e => by have := lq _ e; omega)
        have B5 := hid (show Blk w5 w1.heap.size 57 (spCells s.at_ s.od s.time s.nxt.2) from e5S.trans B4.out)
        have CM5 := hid ((World.cell?_of_block (a := ⟨bM, 0, none⟩) e5M).trans CM4.out)
        have Q5 := hid (show blkOf q5.c ≠ some bM from fun e => by
          rcases HV5.out.new _ e with x | x
          · exact HQ.out x
          · omega)
        clear cM s0 s1 s2 s3 s4 s5 s6 c7 e5M e5S
        have cM := CM5.out
        have s6 := B5.out.cell 6 _ rfl
        have c4 := HM5.out.blk.cell 4 _ rfl
        have c5 := HM5.out.blk.cell 5 _ rfl
        have f4 := HM5.out.blk.frozen 4
        have f5 := HM5.out.blk.frozen 5
        simp only [List.getElem_toArray, List.getElem_cons_succ, List.getElem_cons_zero] at s6 c4 c5
        have hsb : w1.heap.size ≠ b := by omega
        go_cut [] (fun wx => Mac wx base b g q5 { s.deed s.od with at_ := s.nxt.1, time := s.nxt.2 } ∧ Blk wx w1.heap.size 57 (spCells s.at_ s.od s.time s.nxt.2) ∧ wx.cell? ⟨bM, 0, none⟩ = some (.pointer (some ⟨b, 0, none⟩)) ∧ Mv base b g q5 q5 w5 wx)
        case first =>
          go_region
          go_wp2
          go_meet
          refine ⟨((HM5.out.setb 5 (.int .i64 s.nxt.1) { s.deed s.od with at_ := s.nxt.1 } rfl rfl rfl rfl).setb 4 (.int .i64 s.nxt.2) { s.deed s.od with at_ := s.nxt.1, time := s.nxt.2 } rfl rfl rfl rfl).below (below_drewN _ 1), ((B5.out.other hsb _).other hsb _).drew, ?_, ((Mv.setb HMK.out.hb 5 _).trans (Mv.setb HMK.out.hb 4 _)).trans (Mv.below (below_drewN _ 1) (by have := HM5.out.base_le; simp; omega))⟩
          exact setc hMb (setc hMb CM5.out)
        case rest =>
          obtain ⟨hm6, hb6, cM, hv6⟩ := hcut
          have hdn := deed_done s s.od
          have hn := hsk.num
          have HM6 := hid hm6
          have HV6 := hid hv6
          have CM6 := hid cM
          have B6 := hid hb6
          have c6 := hm6.blk.cell 6 _ rfl
          have f6 := hm6.blk.frozen 6
          simp only [List.getElem_toArray, List.getElem_cons_succ, List.getElem_cons_zero] at c6
          rw [hdn] at c6
          have d0 : 0 ≤ s.done ∧ s.done ≤ 1000000000 := by obtain ⟨_, a, _, b, _⟩ := hn; unfold Tm at a; omega
          clear hdn hn hm6 hv6 hb6 s6 c4 c5 f4 f5
          go_upto_region 9 with (fail)
          have HM7 := hid (show Mac (World.setCell wc ⟨b, 6, none⟩ (.int .i64 (s.done + 1))) base b g q5 s.step from (HM6.out.setb 6 (.int .i64 (s.done + 1)) s.step (by simp only [stCells, St.step, ← deed_done s s.od]; rfl) rfl rfl rfl))
          have B7 := hid (B6.out.other (b' := b) (i := 6) hsb (.int .i64 (s.done + 1)))
          have CM7 := hid (setc (k := 6) (u := .int .i64 (s.done + 1)) hMb CM6.out)
          have HV7 := hid ((HV4.out.trans HV5.out).trans (HV6.out.trans (Mv.setb HMK.out.hb 6 (.int .i64 (s.done + 1)))))
          clear cM c6 f6
          generalize World.setCell wc ⟨b, 6, none⟩ (.int .i64 (s.done + 1)) = w7 at *
          obtain ⟨⟨s0', s1, s2, s3⟩, s4, s5, s6⟩ := spBlk B7.out
          have hy0 : YieldAt Fence.wide 0 Try.prog l #[.agg #[.int .i64 s.at_, .int .i64 s.od.op, .int .i64 s.od.fr, .int .i64 s.od.to, .int .i64 s.od.nx, .int .i64 s.time, .int .i64 s.nxt.2]] w7 fun e V' => e = .returned (.bool true) ∧ J (s0.pre k ++ [s.stp]) q5 V' ∧ Kp base b g bM q5 s.step w7 V' := HY.out (s0.pre k) q5 s.step s.stp w7 (HJ.out _ _ _ _ _ _ HJK.out HMK.out HV7.out) HM7.out (by simp [St.pre]; omega)
          obtain ⟨fn, tmps, assign, body, hy, hR⟩ := hy0
          have HRR := hid hR
          clear hR
          refine (wpIn_wide (n := 1)).1 ?_
          gi_wp2
          refine HRR.out.mono ?_
          rintro e w8 ⟨rfl, hj8, hm8, hc8⟩
          have HJ8 := hid hj8
          have HM8 := hid hm8
          have HC8 := hid (hc8.trans CM7.out)
          have HIT := hid (show s0.it (k + 1) = s.step by rw [← HSX.out]; rfl)
          have HPR := hid (show s0.pre (k + 1) = s0.pre k ++ [s.stp] by rw [pre_succ, HSX.out])
          have HEE := hid (show ∀ j, j < k + 1 → (s0.it j).ends = 0 from fun j hj => by
            by_cases e : j = k
            · rw [e, HSX.out]; exact hz
            · exact HE.out j (by omega))
          clear hj8 hm8 hc8 hy s0' s1 s2 s3 s4 s5 s6
          gi_wp2
          go_wp2
          go_roundw
          case rel => exact ⟨k + 1, by omega, by go_num, q5, by rw [HIT.out]; exact HM8.out, by rw [HPR.out]; exact HJ8.out, HC8.out, Q5.out, HEE.out⟩
          case measure => simp [intOf]; omega
      · have hzz : (s.ends == 0) = false := by simpa using hz
        go_region_held3 (fun w' => w'.cell? ⟨bM, 0, none⟩ = some (.pointer (some ⟨b, 0, none⟩)) ∧ w'.cell? ⟨w1.heap.size, 0, none⟩ = some (.int .i64 s.at_) ∧ w'.cell? ⟨w1.heap.size, 1, none⟩ = some (.int .i64 s.od.op) ∧ w'.cell? ⟨w1.heap.size, 2, none⟩ = some (.int .i64 s.od.fr) ∧ w'.cell? ⟨w1.heap.size, 3, none⟩ = some (.int .i64 s.od.to) ∧ w'.cell? ⟨w1.heap.size, 4, none⟩ = some (.int .i64 s.od.nx) ∧ w'.cell? ⟨w1.heap.size, 5, none⟩ = some (.int .i64 s.time) ∧ w'.cell? ⟨w1.heap.size, 6, none⟩ = some (.int .i64 s.nxt.2))
          (first | exact SOF.out _ ((Below.heap_setCell _ _ _ bM hMb).trans (HB3.out.block _ (by omega))) ((Below.heap_setCell _ _ _ w1.heap.size (by simp only; omega)).trans (HB3.out.block _ (by omega))) | exact SOF.out _ (HB3.out.block _ (by omega)) (HB3.out.block _ (by omega)) | exact SOF.out _ rfl rfl)
          (first | (go_at_call 72; refine (HEN.out _ (by first | exact HM2.out.blk | exact HM2.out.blk.drew)).mono ?_; rintro e w3 ⟨rfl, hb3⟩; have HB3 := hid (b_call hb3 (show Below w2.heap.size w2 _ from by (repeat (first | assumption | exact Below.refl _ _ | refine b_alloc ?_ _ | refine Below.drew ?_ | refine b_drewN ?_ _ | refine Below.setCell ?_ (by first | omega | (simp; done) | (simp; omega)) _ | refine b_call (by assumption) ?_)))); have c7 := (HM2.out.blk.call HB3.out).cell 7 _ rfl; have f7 := (HM2.out.blk.call HB3.out).frozen 7; clear hb3))
        have HM4 := hid (((HM2.out.below HB3.out)).setb 7 (.int .i64 s.ends) s.stop rfl rfl rfl rfl)
        have HV4 := hid ((Mv.below (q := q) (base := base) (b := b) (g := g) (b_call HB3.out HB2.out) HMK.out.base_le).trans (Mv.setb HMK.out.hb 7 (.int .i64 s.ends)))
        have cM := (World.cell?_of_block (a := ⟨bM, 0, none⟩) ((Below.heap_setCell w3 ⟨b, 7, none⟩ (.int .i64 s.ends) bM hMb).trans (HB3.out.block _ (by omega)))).trans CM2.out
        have c7 := HM4.out.blk.cell 7 _ rfl
        simp only [List.getElem_toArray, List.getElem_cons_succ, List.getElem_cons_zero] at c7
        replace c7 : (World.setCell w3 ⟨b, 7, none⟩ (.int .i64 s.ends)).cell? ⟨b, 7, none⟩ = some (.int .i64 s.ends) := c7
        have hr := run_it k (N - k) s0 HE.out
        have ht := trace_it k (N - k) s0 HE.out
        rw [HSX.out, show k + (N - k) = N by omega, show N - k = (N - k - 1) + 1 by omega, St.run, if_neg hz] at hr
        rw [HSX.out, show k + (N - k) = N by omega, show N - k = (N - k - 1) + 1 by omega, St.trace, if_neg hz, List.append_nil] at ht
        have HF := hid (show Mac (World.setCell w3 ⟨b, 7, none⟩ (.int .i64 s.ends)) base b g q (St.run N s0) ∧ J (St.trace N s0) q (World.setCell w3 ⟨b, 7, none⟩ (.int .i64 s.ends)) from ⟨by rw [hr]; exact HM4.out, by rw [ht]; exact HJ.out _ _ _ _ _ _ HJK.out HMK.out HV4.out⟩)
        clear hr ht hz
        generalize World.setCell w3 ⟨b, 7, none⟩ (.int .i64 s.ends) = w4 at *
        go_wp2
        first | (rw [Exit.noGoto_normal]; go_end0) | (simp only [Exit.noGoto_normal]; go_end0) | (rw [Exit.noGoto_normal]; go_wp2; go_end0) | (rw [Exit.noGoto_normal]; refine bodyPost_end rfl rfl ?_)
        exact ⟨⟨_, rfl⟩, q, HF.out.1, HF.out.2⟩
    · obtain rfl : k = N := by omega
      have k1 : ¬ (k : Int) < (k : Int) := by omega
      have hr := run_it k 0 s0 he
      have ht := trace_it k 0 s0 he
      rw [Nat.add_zero] at hr ht
      have HF := hid (show Mac wr base b g q (St.run k s0) ∧ J (St.trace k s0) q wr from ⟨by rw [hr]; exact hmk, by rw [ht]; simpa [St.trace] using hjk⟩)
      clear hr ht hmk hjk he hq cM
      go_wp2
      first | (rw [Exit.noGoto_ret]; go_end0) | go_end0 | refine bodyPost_ret (results_none rfl _ _ _) rfl ?_
      exact ⟨⟨_, rfl⟩, q, HF.out.1, HF.out.2⟩
end Go.Proofs.Ytbfhgcnfhjhgcaa
