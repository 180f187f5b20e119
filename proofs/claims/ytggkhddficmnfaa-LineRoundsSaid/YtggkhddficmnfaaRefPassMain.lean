/-
  Contract of the reference's Pass, where there is no error; and LinePasses, walked.
-/
import Derived.Test.YtggkhddficmnfaaRefPass
namespace Go.Proofs.Ytggkhddficmnfaa
open Go.RowKit
set_option linter.unusedVariables false
set_option linter.unusedSimpArgs false

theorem firstLost_nil (l : Ln) : firstLost l [] = none := by simp [firstLost]
theorem rS_bd {l : Ln} (h : l.Ok) {t : Int} (ht : Temp t) : -2000000000 ≤ l.rS t ∧ l.rS t ≤ 2000000000 := by
  have hb := h.late_bd ht.1 ht.2
  obtain ⟨_, _, h3, _, _, h6⟩ := id h
  unfold Ln.rS Ln.shift
  split
  · simp
  · simp only [Option.getD_some]
    have e := Int.mul_ediv_add_emod (l.late t + l.N) l.P
    have h0 := Int.emod_nonneg (l.late t + l.N) (show l.P ≠ 0 by omega)
    have h1 := Int.emod_lt_of_pos (l.late t + l.N) (show 0 < l.P by omega)
    generalize (l.late t + l.N) / l.P = q at *
    constructor
    · by_cases g : 0 ≤ q
      · omega
      · have := Int.mul_le_mul_of_nonneg_right (show (2 : Int) ≤ l.P by omega) (show 0 ≤ -q by omega)
        have e2 : l.P * -q = -(l.P * q) := Int.mul_neg _ _
        omega
    · by_cases g : q ≤ 0
      · omega
      · have := Int.mul_le_mul_of_nonneg_right (show (2 : Int) ≤ l.P by omega) (show 0 ≤ q by omega)
        omega
theorem pulsesTo_step (l : Ln) (ws ts : List Int) (n k : Nat) (hk : k < ts.length) : pulsesTo l ws ts n (k + 1) = if l.rL (ts[k]?.getD 0) then List.replicate (ws.length * n) false else rot (pulsesTo l ws ts n k) (l.rS (ts[k]?.getD 0) % ((ws.length * n : Nat) : Int)).toNat := by
  unfold pulsesTo
  rw [firstLost_succ l ts k hk]
  cases hf : firstLost l (ts.take k) with
  | some j =>
    simp only [Option.isSome_some, if_true]
    rw [rot_zeros]; simp
  | none =>
    cases hl : l.rL (ts[k]?.getD 0) with
    | true => simp
    | false =>
      simp only [Bool.false_eq_true, if_false, Option.isSome_none]
      rw [List.range_succ, roundsL_snoc, pulsesFrom_len]
theorem lostAt_step (l : Ln) (ts : List Int) (k : Nat) (hk : k < ts.length) : lostAt l ts (k + 1) = if lostAt l ts k < 0 then (if l.rL (ts[k]?.getD 0) then (k : Int) else -1) else lostAt l ts k := by
  unfold lostAt
  rw [firstLost_succ l ts k hk]
  cases hf : firstLost l (ts.take k) with
  | some j => simp only; rw [if_neg (by omega)]
  | none => cases hl : l.rL (ts[k]?.getD 0) <;> simp

set_option maxRecDepth 100000 in
set_option maxHeartbeats 8000000 in
theorem refPass_good (m n : Nat) (lp ld ls ln : Int) (h : (Ln.mk m n lp ld ls ln).Ok) (a b : Option Addr) (ca cb : Nat) (ws ts : List Int) (hwl : ws.length = m) (hok : wordsOk (n : Int) ws) (hlt : ts.length ≤ 60) (ht : tempsOk ts) (w : World) (hx : IntsAt w a ws) (hy : IntsAt w b ts) :
    Calls Try.prog 30 #[Ln.val ⟨m, n, lp, ld, ls, ln⟩, .slice a ws.length ca, .slice b ts.length cb] w (RetL w (joined (pulsesTo ⟨m, n, lp, ld, ls, ln⟩ ws ts n ts.length) n m) (lostAt ⟨m, n, lp, ld, ls, ln⟩ ts ts.length) 0) := by
  obtain ⟨iI, hiI, hzI0, hzI1, hzI2⟩ := info_parts infoI
  obtain ⟨h1, h2, _⟩ := id h
  simp only at h1 h2
  have HX := hid hx
  have HY := hid hy
  have hW : ∀ W, IntsAt W a ws → Calls Try.prog 68 #[Ln.val ⟨m, n, lp, ld, ls, ln⟩, .slice a ws.length ca] W (Ret W (.int .i64 0)) := fun W g => by
    have := refWords_any ⟨m, n, lp, ld, ls, ln⟩ h a ca ws W g
    rw [show wordsErr ⟨m, n, lp, ld, ls, ln⟩ ws = 0 by unfold wordsErr wErr; rw [if_pos (by simp only; omega), if_pos hok]] at this
    exact this
  have HW := hid hW
  obtain ⟨L, hL⟩ : ∃ L, m * n = L := ⟨_, rfl⟩
  have hwn : ws.length * n = L := by rw [hwl, hL]
  have hPL : ∀ W, IntsAt W a ws → Calls Try.prog 51 #[.slice a ws.length ca, .int .i64 (n : Int)] W fun e w' => ∃ a' c', e = .returned (.slice a' L c') ∧ IntsAt w' a' (P01 ws n) ∧ Below W.heap.size W w' := fun W g => by
    refine (refPulses_any a ca ws n (by omega) (by omega) (fun x hx => by have := hok x hx; have := pw_bd (show (n : Int) ≤ 40 by omega); omega) W g).mono ?_
    rintro e w' ⟨v, rfl, hr, hb⟩
    obtain ⟨a3, c3, rfl, hi3⟩ := rowIntsI hr
    exact ⟨a3, c3, by rw [List.length_map, pulsesFrom_len, hwn], hi3, hb⟩
  have HPL := hid hPL
  have hL0 := hid (lnAt_new' ⟨m, n, lp, ld, ls, ln⟩ w)
  have HH := hid h
  have HT := hid ht
  have HWL := hid hwl
  have hLb : 1 ≤ L ∧ L ≤ 2560 := by
    have h1' := Nat.mul_le_mul (show 1 ≤ m by omega) (show 1 ≤ n by omega)
    have h2' := Nat.mul_le_mul (show m ≤ 64 by omega) (show n ≤ 40 by omega)
    omega
  have HLL := hid hL
  have HWN := hid hwn
  clear hx hy hW hPL h ht hwl hL hok hwn
  have hlt2 : (ts.length : Int) ≤ 60 := by omega
  go_enter Try.func30, Try.ntmps30
  go_wp2_with (first
    | (go_at_call 26; refine (refCheck_ok _ HH.out _).mono ?_; rintro e w1 ⟨rfl, hb1⟩; have HB1 := hid (show Below w.heap.size w w1 by (repeat (first | assumption | exact Below.refl _ _ | refine b_alloc ?_ _ | refine Below.drew ?_ | refine b_drewN ?_ _ | refine Below.setCell ?_ (by first | omega | (simp; done) | (simp; omega)) _ | refine b_call (by assumption) ?_))); have hL1 := hid (lnAt_call hL0.out hb1); obtain ⟨d0, d1, d2, d3, d4, d5⟩ := hL1.out; clear hb1)
    | (go_at_call 68; refine (HW.out _ (HX.out.below HB1.out)).mono ?_; rintro e w2 ⟨rfl, hb2⟩; have hL2 := hid (lnAt_call hL1.out hb2); have HB2 := hid (show Below w.heap.size w w2 from b_call hb2 (by have hq := HB1.out; (repeat (first | assumption | exact Below.refl _ _ | refine b_alloc ?_ _ | refine Below.drew ?_ | refine b_drewN ?_ _ | refine Below.setCell ?_ (by first | omega | (simp; done) | (simp; omega)) _ | refine b_call (by assumption) ?_)))); clear hb2; clear d0 d1 d2 d3 d4 d5))
  go_loopw [9, 10] (fun e i wr => ∃ k : Nat, k ≤ ts.length ∧ i = .int .i64 k ∧ w2 = wr ∧ e = .int .i64 0) (fun _ i _ => ts.length - (intOf i).toNat)
  case atStart => exact ⟨0, Nat.zero_le _, rfl, rfl, rfl⟩
  case round =>
    obtain ⟨k, hk, rfl, rfl, rfl⟩ := hrel
    by_cases hlt3 : k < ts.length
    · obtain ⟨bb, off, rfl, hc⟩ := (HY.out.below HB2.out) k hlt3
      have htk : Temp (ts[k]?.getD 0) := HT.out _ (by simp [hlt3])
      have hT := fun W => Temp_any (ts[k]?.getD 0) W
      rw [decide_eq_true htk] at hT
      have HTT := hid hT
      clear hT htk
      generalize ts[k]?.getD 0 = tk at *
      go_wp2_with (go_at_call 47; refine (HTT.out _).mono ?_; rintro e w3 ⟨rfl, rfl⟩)
      go_roundw
      case rel => exact ⟨k + 1, by omega, by go_num, trivial, rfl⟩
      case measure => simp [intOf]; omega
    · obtain rfl : k = ts.length := by omega
      obtain ⟨d0, d1, d2, d3, d4, d5⟩ := hL2.out
      go_wp2_with (go_at_call 51; refine (HPL.out _ (HX.out.below HB2.out)).mono ?_; rintro e w3 ⟨a3, c3, rfl, hi3, hb3⟩; have HI3 := hid hi3; have hL3 := hid (lnAt_call hL2.out hb3); have HB3 := hid (show Below w.heap.size w w3 from b_call hb3 (by have hq := HB2.out; (repeat (first | assumption | exact Below.refl _ _ | refine b_alloc ?_ _ | refine Below.drew ?_ | refine b_drewN ?_ _ | refine Below.setCell ?_ (by first | omega | (simp; done) | (simp; omega)) _ | refine b_call (by assumption) ?_)))); clear hb3; clear d0 d1 d2 d3 d4 d5; clear hi3)
      obtain ⟨l, hl⟩ : ∃ l : Ln, Ln.mk m n lp ld ls ln = l := ⟨_, rfl⟩
      have HL0 := hid hl
      have hLs := hL3.out
      rw [hl] at hLs
      have hOk : l.Ok := hl ▸ HH.out
      have HOK := hid hOk
      have HLS := hid hLs
      clear hl hLs hOk
      go_loopw [11, 12, 13] (fun v av i wr => ∃ (k : Nat) (a' : Option Addr) (c' : Nat), k ≤ ts.length ∧ i = .int .i64 k ∧ v = .slice a' L c' ∧ IntsAt wr a' ((pulsesTo l ws ts n k).map p01) ∧ av = .int .i64 (lostAt l ts k) ∧ LnAt w.heap.size l wr ∧ Below w.heap.size w wr) (fun _ _ i _ => ts.length - (intOf i).toNat)
      case atStart => exact ⟨0, a3, c3, Nat.zero_le _, rfl, rfl, by simpa [pulsesTo, firstLost_nil, roundsL] using HI3.out, by simp [lostAt, firstLost_nil], HLS.out, HB3.out⟩
      case round =>
        obtain ⟨k, a', c', hk, rfl, rfl, hi, rfl, hln, hbr⟩ := hrel
        have HI := hid hi
        have HLN := hid hln
        have HB := hid hbr
        clear hi hln hbr
        by_cases hlt4 : k < ts.length
        · obtain ⟨bb, off, rfl, hc⟩ := (HY.out.below HB.out) k hlt4
          obtain ⟨d0, d1, d2, d3, d4, d5⟩ := HLN.out
          have htk : Temp (ts[k]?.getD 0) := HT.out _ (by simp [hlt4])
          have hps := pulsesTo_step l ws ts n k hlt4
          have hla := lostAt_step l ts k hlt4
          obtain ⟨tk, hte⟩ : ∃ tk, ts[k]?.getD 0 = tk := ⟨_, rfl⟩
          rw [hte] at hc htk hps hla
          have hsb := rS_bd HOK.out htk
          have hsh := fun W => refshift_any l HOK.out tk htk W
          have hnl : (l.shift tk).isSome = !l.rL tk := by unfold Ln.rL; cases l.shift tk <;> rfl
          rw [hnl, show (l.shift tk).getD 0 = l.rS tk from rfl] at hsh
          have HSH := hid hsh
          have hlp : (pulsesTo l ws ts n k).length = L := by rw [pulsesTo_len, HWN.out]
          have hlate := fun W a' c' g => refLate_any a' c' ((pulsesTo l ws ts n k).map p01) (l.rS tk) (by rw [List.length_map]; omega) (by omega) W g
          rw [lateL_rot _ _ (by omega), List.length_map, hlp] at hlate
          rw [HWN.out] at hps
          have HLATE := hid hlate
          have HPS := hid hps
          have HLA := hid hla
          generalize l.rS tk = sh at *
          cases hrl : l.rL tk with
          | false =>
            rw [hrl] at HSH HPS HLA
            have hps := HPS.out
            have hla := HLA.out
            simp only [Bool.false_eq_true, if_false] at hps hla
            have hla2 : lostAt l ts (k + 1) = lostAt l ts k := by
              rw [hla]; unfold lostAt; split <;> simp
            have HPS2 := hid hps
            have HLA2 := hid hla2
            clear hps hla hla2 hrl
            go_wp2
            go_region_held3 (fun w' => w'.cell? ⟨w.heap.size, 0, none⟩ = some (.int .i64 l.W) ∧ w'.cell? ⟨w.heap.size, 1, none⟩ = some (.int .i64 l.B) ∧ w'.cell? ⟨w.heap.size, 2, none⟩ = some (.int .i64 l.P) ∧ w'.cell? ⟨w.heap.size, 3, none⟩ = some (.int .i64 l.D) ∧ w'.cell? ⟨w.heap.size, 4, none⟩ = some (.int .i64 l.S) ∧ w'.cell? ⟨w.heap.size, 5, none⟩ = some (.int .i64 l.N) ∧ w'.cell? ⟨bb, off + k, none⟩ = some (.int .i64 tk))
              (first | go_keep | (go_split_ands; refine ⟨?_, ?_, ?_, ?_, ?_, ?_, ?_⟩ <;> exact cell_later hb4 (by assumption)))
              (first | (go_at_call 59; refine (HSH.out _).mono ?_; rintro e w4 ⟨rfl, hb4⟩))
            have hb4' := b_call hb4 ((Below.refl wr.heap.size wr).drew)
            have HI4 := hid (HI.out.below hb4')
            have HLN4 := hid (lnAt_call HLN.out hb4')
            have HB4 := hid (b_call hb4' HB.out)
            clear hb4 hb4' d0 d1 d2 d3 d4 d5 hc
            go_wp2_with (go_at_call 50; refine (HLATE.out _ _ _ HI4.out).mono ?_; rintro e w5 ⟨g5, rfl, hr5, hb5⟩; have HI5 := hid (intsOfRow hr5); have HLN5 := hid (lnAt_call HLN4.out hb5); have HB5 := hid (show Below w.heap.size w w5 from b_call hb5 (by have hq := HB4.out; (repeat (first | assumption | exact Below.refl _ _ | refine b_alloc ?_ _ | refine Below.drew ?_ | refine b_drewN ?_ _ | refine Below.setCell ?_ (by first | omega | (simp; done) | (simp; omega)) _ | refine b_call (by assumption) ?_)))); clear hb5; clear hr5)
            go_roundw
            case rel => exact ⟨k + 1, some ⟨g5, 0, none⟩, L, by omega, by go_num, rfl, by rw [HPS2.out]; exact HI5.out, by rw [HLA2.out], HLN5.out, HB5.out⟩
            case measure => simp [intOf]; omega
          | true =>
            rw [hrl] at HSH HPS HLA
            have hps := HPS.out
            have hla := HLA.out
            simp only [if_true] at hps hla
            have HPS2 := hid hps
            have HLA2 := hid hla
            clear hps hla hrl
            have hzz : (madeCells (Value.int .i64 0).cells (L * 1)).toList = ((List.replicate L false).map p01).map (Value.int .i64) := by
              rw [Nat.mul_one, show (Value.int .i64 0).cells = #[Value.int .i64 0] from rfl, toList_madeCells_one, List.map_replicate, List.map_replicate]; rfl
            have HZZ := hid hzz
            clear hzz
            have hcs : (lostAt l ts k < 0 ∧ lostAt l ts (k + 1) = (k : Int)) ∨ (0 ≤ lostAt l ts k ∧ lostAt l ts (k + 1) = lostAt l ts k) := by
              have := HLA2.out
              by_cases g : lostAt l ts k < 0
              · rw [if_pos g] at this; exact .inl ⟨g, this⟩
              · rw [if_neg g] at this; exact .inr ⟨by omega, this⟩
            have HCS := hid hcs
            clear hcs
            go_wp2
            go_region_held3 (fun w' => w'.cell? ⟨w.heap.size, 0, none⟩ = some (.int .i64 l.W) ∧ w'.cell? ⟨w.heap.size, 1, none⟩ = some (.int .i64 l.B) ∧ w'.cell? ⟨w.heap.size, 2, none⟩ = some (.int .i64 l.P) ∧ w'.cell? ⟨w.heap.size, 3, none⟩ = some (.int .i64 l.D) ∧ w'.cell? ⟨w.heap.size, 4, none⟩ = some (.int .i64 l.S) ∧ w'.cell? ⟨w.heap.size, 5, none⟩ = some (.int .i64 l.N) ∧ w'.cell? ⟨bb, off + k, none⟩ = some (.int .i64 tk))
              (first | go_keep | (go_split_ands; refine ⟨?_, ?_, ?_, ?_, ?_, ?_, ?_⟩ <;> exact cell_later hb4 (by assumption)))
              (first | (go_at_call 59; refine (HSH.out _).mono ?_; rintro e w4 ⟨rfl, hb4⟩))
            have hb4' := b_call hb4 ((Below.refl wr.heap.size wr).drew)
            have HI4 := hid (HI.out.below hb4')
            have HLN4 := hid (lnAt_call HLN.out hb4')
            have HB4 := hid (b_call hb4' HB.out)
            clear hb4 hb4' d0 d1 d2 d3 d4 d5 hc
            rcases HCS.out with ⟨q1, q2⟩ | ⟨q1, q2⟩
            all_goals
              have Q2 := hid q2
              clear q2
              go_wp2_with (first
                | (go_at_call 50; refine (HLATE.out _ _ _ HI4.out).mono ?_; rintro e w5 ⟨g5, rfl, hr5, hb5⟩; have HI5 := hid (intsOfRow hr5); have HLN5 := hid (lnAt_call HLN4.out hb5); have HB5 := hid (show Below w.heap.size w w5 from b_call hb5 (by have hq := HB4.out; (repeat (first | assumption | exact Below.refl _ _ | refine b_alloc ?_ _ | refine Below.drew ?_ | refine b_drewN ?_ _ | refine Below.setCell ?_ (by first | omega | (simp; done) | (simp; omega)) _ | refine b_call (by assumption) ?_)))); clear hb5; clear hr5)
                | (refine wpList_make_full _ rfl _ _ 35 rfl w.heap.size 3 iI (.int .i64 0) 1 Try.underlying35 hiI hzI0 hzI1 .i64 .i64 (L : Int) (L : Int) L rfl rfl rfl rfl (by rw [hzI2]; omega) (by unfold maxLen; omega) HB5.out.size ?_; intro w6 hown hgrow; rw [HZZ.out] at hown; have HI6 := hid (intsOfRow hown); have HLN6 := hid (lnAt_call HLN5.out (below_of_grown hgrow)); have HB6 := hid (b_call (below_of_grown hgrow) HB5.out); clear hown hgrow))
              go_roundw
              case rel => exact ⟨k + 1, some ⟨w5.heap.size, 0, none⟩, L, by omega, by go_num, rfl, by rw [HPS2.out]; exact HI6.out, by rw [Q2.out], HLN6.out, HB6.out⟩
              case measure => simp [intOf]; omega
        · obtain rfl : k = ts.length := by omega
          obtain ⟨d0, d1, d2, d3, d4, d5⟩ := HLN.out
          have hlp : (pulsesTo l ws ts n ts.length).length = L := by rw [pulsesTo_len, HWN.out]
          have hJ := fun W a' c' g => refJoined_any a' c' (pulsesTo l ws ts n ts.length) n m (by omega) (by omega) (by rw [hlp, HLL.out]) W g
          rw [hlp] at hJ
          have hlB : l.B = (n : Int) := by rw [← HL0.out]
          rw [hlB] at d1
          have HJ := hid hJ
          clear hJ hlB
          go_wp2_with (go_at_call 49; refine (HJ.out _ _ _ HI.out).mono ?_; rintro e w7 ⟨g7, rfl, hr7, hb7⟩; have HI7 := hid (intsOfRow hr7); have HB7 := hid (b_call hb7 HB.out); clear hb7 hr7)
          go_ret3
          rw [HL0.out]
          have hjl : (joined (pulsesTo l ws ts n ts.length) n m).length = m := by simp [joined]
          exact ⟨some ⟨g7, 0, none⟩, m, by rw [hjl]; rfl, HI7.out, HB7.out⟩

/-- What the reference's Pass returns, of any line, words and temperatures: what Pass returns. -/
theorem refPass_law (l : Ln) (a b : Option Addr) (ca cb : Nat) (ws ts : List Int) (hle : Len ts.length) (w : World) (hx : IntsAt w a ws) (hy : IntsAt w b ts) :
    Calls Try.prog 30 #[l.val, .slice a ws.length ca, .slice b ts.length cb] w (RetL w (passXs l ws ts) (passAt l ws ts) (passErr l ws ts)) := by
  unfold passXs passAt
  by_cases h0 : passErr l ws ts = 0
  · rw [if_pos h0, if_pos h0, h0]
    obtain ⟨h, hwl, hok, hlt, ht⟩ := passErr_zero h0
    obtain ⟨lw, lb, lp, ld, ls, ln⟩ := l
    obtain ⟨h1, h2, _⟩ := id h
    simp only at h1 h2 hwl hok
    obtain ⟨m, rfl⟩ : ∃ m : Nat, lw = (m : Int) := ⟨lw.toNat, by omega⟩
    obtain ⟨n, rfl⟩ : ∃ n : Nat, lb = (n : Int) := ⟨lb.toNat, by omega⟩
    have hg := refPass_good m n lp ld ls ln h a b ca cb ws ts (by omega) hok hlt ht w hx hy
    have e : (passOut ⟨m, n, lp, ld, ls, ln⟩ ws ts) = (joined (pulsesTo ⟨m, n, lp, ld, ls, ln⟩ ws ts n ts.length) n m, lostAt ⟨m, n, lp, ld, ls, ln⟩ ts ts.length) := by
      unfold passOut pulsesTo lostAt
      rw [List.take_of_length_le (Nat.le_refl _)]
      cases firstLost ⟨m, n, lp, ld, ls, ln⟩ ts with
      | none => simp
      | some j => simp only [Option.isSome_some, if_true, Int.toNat_natCast]; rw [show ws.length = m by omega, joined_zeros]
    rw [e]
    exact hg
  · rw [if_neg h0, if_neg h0]
    have conv : Calls Try.prog 30 #[l.val, .slice a ws.length ca, .slice b ts.length cb] w (Ret w (.tuple #[.slice none 0 0, .int .i64 0, .int .i64 (passErr l ws ts)])) := by
      unfold passErr at h0 ⊢
      by_cases h : l.Ok
      · rw [if_pos h] at h0 ⊢
        by_cases hw : wordsErr l ws = 0
        · rw [if_pos hw] at h0 ⊢
          by_cases hlt : ts.length ≤ 60
          · rw [if_pos hlt] at h0 ⊢
            unfold tErr at h0 ⊢
            by_cases ht : tempsOk ts
            · rw [if_pos ht] at h0; exact absurd rfl h0
            · rw [if_neg ht]; exact refPass_temp l h a b ca cb ws ts hlt hw ht w hx hy
          · rw [if_neg hlt]; exact refPass_early l a b ca cb ws ts hle 3 w hx (.inr (.inr ⟨h, hw, by omega, rfl⟩))
        · rw [if_neg hw]; exact refPass_early l a b ca cb ws ts hle _ w hx (.inr (.inl ⟨h, rfl, hw⟩))
      · rw [if_neg h]; exact refPass_early l a b ca cb ws ts hle 7 w hx (.inl ⟨h, rfl⟩)
    refine conv.mono ?_
    rintro e w' ⟨rfl, hb⟩
    exact ⟨none, 0, rfl, fun j hj => by simp at hj, hb⟩

set_option maxRecDepth 100000 in
set_option maxHeartbeats 2000000 in
theorem passes_row (hA : ∀ W, Calls Try.prog 22 #[] W (Ret W (.bool true))) (w : World) (l : Ln) (a : Option Addr) (ca : Nat) (ws : List Int) (hlw : Len ws.length) (hx : IntsAt w a ws) (b : Option Addr) (cb : Nat) (ts : List Int) (hlt : Len ts.length) (hy : IntsAt w b ts) :
    Calls Try.prog 5 #[l.val, .slice a ws.length ca, .slice b ts.length cb] w fun e w' => e = .returned (.bool true) ∧ Below w.heap.size w w' := by
  have HA := hid hA
  have h1 := fun W gx gy => Pass_law l a b ca cb ws ts hlt W gx gy
  have h2 := fun W gx gy => refPass_law l a b ca cb ws ts hlt W gx gy
  have hxl : Len (passXs l ws ts).length := by
    unfold passXs
    split
    · rename_i h0
      obtain ⟨h, _⟩ := passErr_zero h0
      have := h.1
      unfold passOut
      split <;> simp [joined] <;> omega
    · simp
  generalize passXs l ws ts = xs at *
  generalize passAt l ws ts = at1 at *
  generalize passErr l ws ts = pe at *
  have H1 := hid h1
  have H2 := hid h2
  have HX := hid hx
  have HY := hid hy
  have hL0 := hid (lnAt_new' l w)
  clear h1 h2 hx hy hA
  have HINT := hid (show ∀ W c cc c2 cc2, IntsAt W c xs → IntsAt W c2 xs → Calls Try.prog 31 #[.slice c xs.length cc, .slice c2 xs.length cc2] W (Ret W (.bool true)) from fun W c cc c2 cc2 g1 g2 => by
    have := Ints_any c c2 cc cc2 xs xs hxl hxl W g1 g2
    simpa using this)
  go_enter Try.func5, Try.ntmps5
  go_wp2_with (first
    | (go_at_call 29; refine (H1.out _ (HX.out.below (by (repeat (first | assumption | exact Below.refl _ _ | refine b_alloc ?_ _ | refine Below.drew ?_ | refine b_drewN ?_ _ | refine Below.setCell ?_ (by first | omega | (simp; done) | (simp; omega)) _ | refine b_call (by assumption) ?_)))) (HY.out.below (by (repeat (first | assumption | exact Below.refl _ _ | refine b_alloc ?_ _ | refine Below.drew ?_ | refine b_drewN ?_ _ | refine Below.setCell ?_ (by first | omega | (simp; done) | (simp; omega)) _ | refine b_call (by assumption) ?_))))).mono ?_; rintro e w1 ⟨a1, c1, rfl, hi, hb1⟩; have HB1 := hid (show Below w.heap.size w w1 by (repeat (first | assumption | exact Below.refl _ _ | refine b_alloc ?_ _ | refine Below.drew ?_ | refine b_drewN ?_ _ | refine Below.setCell ?_ (by first | omega | (simp; done) | (simp; omega)) _ | refine b_call (by assumption) ?_))); have HI1 := hid hi; have hL1 := hid (lnAt_call hL0.out hb1); obtain ⟨d0, d1, d2, d3, d4, d5⟩ := hL1.out; clear hb1 hi)
    | (go_at_call 30; refine (H2.out _ (HX.out.below HB1.out) (HY.out.below HB1.out)).mono ?_; rintro e w2 ⟨a2, c2, rfl, hi, hb2⟩; have HI2 := hid hi; have HJ2 := hid (HI1.out.below hb2); have HB2 := hid (show Below w.heap.size w w2 from b_call hb2 (by have hq := HB1.out; (repeat (first | assumption | exact Below.refl _ _ | refine b_alloc ?_ _ | refine Below.drew ?_ | refine b_drewN ?_ _ | refine Below.setCell ?_ (by first | omega | (simp; done) | (simp; omega)) _ | refine b_call (by assumption) ?_)))); clear hb2; clear d0 d1 d2 d3 d4 d5; clear hi)
    | (go_at_call 31; refine (HINT.out _ _ _ _ _ HJ2.out HI2.out).mono ?_; rintro e w3 ⟨rfl, hb3⟩; have HB3 := hid (show Below w.heap.size w w3 from b_call hb3 (by have hq := HB2.out; (repeat (first | assumption | exact Below.refl _ _ | refine b_alloc ?_ _ | refine Below.drew ?_ | refine b_drewN ?_ _ | refine Below.setCell ?_ (by first | omega | (simp; done) | (simp; omega)) _ | refine b_call (by assumption) ?_)))); clear hb3)
    | (go_at_call 22; refine (HA.out _).mono ?_; rintro e w4 ⟨rfl, hb4⟩; have HB4 := hid (show Below w.heap.size w w4 from b_call hb4 (by have hq := HB3.out; (repeat (first | assumption | exact Below.refl _ _ | refine b_alloc ?_ _ | refine Below.drew ?_ | refine b_drewN ?_ _ | refine Below.setCell ?_ (by first | omega | (simp; done) | (simp; omega)) _ | refine b_call (by assumption) ?_)))); clear hb4))
  go_ret
  exact ⟨rfl, HB4.out⟩
end Go.Proofs.Ytggkhddficmnfaa
