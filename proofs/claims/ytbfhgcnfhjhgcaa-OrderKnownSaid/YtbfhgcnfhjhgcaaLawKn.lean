/-
  OrderKnown: the examples of the document.
-/
import Derived.Test.YtbfhgcnfhjhgcaaLawPr
import Derived.Test.YtbfhgcnfhjhgcaaAwParts
namespace Go.Proofs.Ytbfhgcnfhjhgcaa
open Go.RowKit
set_option linter.unusedVariables false
set_option linter.unusedSimpArgs false

theorem kA_ok : SOk kA := begSt_ok (store := [12583560, 0, 0, 0, 0, 0, 0, 0, 10569226, 0, 4278016, 0, 14909453, 0, 0]) (tape := [3]) (start := 0) (by decide) (by decide) (fun x hx => by simp at hx; omega) (fun x hx => by simp at hx; omega) (by decide)
theorem kA_len0 : kA.store.length = 128 := by kernel_rfl
theorem stLenK : StLen kA := ⟨by rw [kA_len0]; unfold Len; omega, by show Len 1; unfold Len; omega, by show Len 0; unfold Len; omega⟩
theorem kBegin (a b : Option Addr) (ca cb : Nat) (w : World) (hx : IntsAt w a stE) (hy : IntsAt w b [3]) : Calls Try.prog 28 #[.slice a 15 ca, .slice b 1 cb, .int .i64 0] w (RetS w kA 0) := by
  have h := begin_ok a b ca cb stE [3] 0 (by decide) (by decide) (by kernel_rfl) (by kernel_rfl) (by decide) w hx hy
  rw [show begSt stE [3] 0 = kA from by kernel_rfl] at h
  exact h
theorem kRun (q : Sl) (w : World) (hx : StAt w q kA) : Calls Try.prog 31 #[stVal q kA, .int .i64 100] w (fun e w' => ∃ (pa pb pc : Option Addr) (ka kb kc : Nat), e = .returned (.tuple #[.agg #[.slice pa 128 ka, .slice pb 1 kb, .int .i64 1, .slice pc 0 kc, .int .i64 48, .int .i64 0, .int .i64 3, .int .i64 2], .int .i64 0]) ∧ Below w.heap.size w w') := by
  have h := Run_any q kA stLenK 100 w hx
  have e := ask_of kA_ok (n := 100) (by decide)
  unfold runOf at h
  rw [e, if_pos rfl, show (100 : Int).toNat = 100 from rfl] at h
  refine h.mono ?_
  rintro e w' ⟨⟨pa, pb, pc, ka, kb, kc⟩, rfl, hs, hb⟩
  refine ⟨pa, pb, pc, ka, kb, kc, ?_, hb⟩
  unfold stVal stCells
  rw [kA_len, kA_tape, kA_prn, kA_taken, kA_time, kA_at, kA_done, kA_why]
  rfl
theorem kWhen (w : World) : Calls Try.prog 24 #[.agg #[.int .i64 4, .int .i64 1, .int .i64 2, .int .i64 3], .int .i64 0, .bool false] w (Ret w (val3 3 19 0)) := by
  have h := When_any ⟨4, 1, 2, 3⟩ 0 false w
  rw [show whenErr ⟨4, 1, 2, 3⟩ 0 = 0 from by decide, show whenOf ⟨4, 1, 2, 3⟩ 0 false = (3, 19) from by kernel_rfl] at h
  exact h
theorem cell_lt {W : World} {b : Nat} {t : TypeId} {cs : Array Value} (h : Blk W b t cs) {i : Nat} {v : Value} (hc : W.cell? ⟨b, i, none⟩ = some v) : i < cs.size := by
  unfold Blk at h
  simp [World.cell?, h] at hc
  exact (Array.getElem?_eq_some_iff.1 hc).1
/-- A long row does not lie in a state's own block. -/
theorem ints_keep {W : World} {b : Nat} {t : TypeId} {cs : Array Value} (h : Blk W b t cs) (hs : cs.size = 8) {p : Option Addr} {xs : List Int} (hx : IntsAt W p xs) (hl : xs.length = 128) (X : Array Value) : IntsAt (W.setRow b X) p xs := by
  obtain ⟨b0, o0, e0, hc⟩ := ints_addr' hx (by omega)
  have hne : b0 ≠ b := fun e => by
    subst e
    have := cell_lt h (hc 127 (by omega))
    omega
  intro j hj
  refine ⟨b0, o0, e0, ?_⟩
  exact (World.cell?_of_block (a := ⟨b0, o0 + j, none⟩) (setRow_other W b b0 X hne)).trans (hc j hj)
theorem stP_keep {W : World} {b : Nat} {T : TypeId} {cs : Array Value} (h : Blk W b T cs) (hs : cs.size = 8) {pa pb pc : Option Addr} {ka kb kc : Nat} {x y t a d z : Int} (hx : StAt W ⟨pa, pb, pc, ka, kb, kc⟩ (pS x y t a d z)) (X : Array Value) : StAt (W.setRow b X) ⟨pa, pb, pc, ka, kb, kc⟩ (pS x y t a d z) :=
  ⟨ints_keep h hs (show IntsAt W pa (pS x y t a d z).store from hx.1) (pS_len _ _ _ _ _ _) X, fun j hj => by simp [pS] at hj, fun j hj => by simp [pS] at hj⟩
abbrev pCells (pa pb pc : Option Addr) (ka kb kc : Nat) (t a d z : Int) : Array Value := #[.slice pa 128 ka, .slice pb 0 kb, .int .i64 0, .slice pc 0 kc, .int .i64 t, .int .i64 a, .int .i64 d, .int .i64 z]
theorem kP0 : prodOf 14680064 4194304 = 15728640 := by decide
theorem kP1 : prodOf 16777215 1 = 16777215 := by decide
theorem kP2 : prodOf 8388608 8388608 = 8388608 := by decide
attribute [local go_sem ↓] oper_store
set_option maxRecDepth 100000 in
set_option maxHeartbeats 16000000 in
theorem known_any (hA : AwakeTrue) (w : World) : Calls Try.prog 8 #[] w (Ret w (.bool true)) := by
  have HA := hid hA
  have M0 := hid trivial
  have HB0 := hid (Below.refl w.heap.size w)
  clear hA
  go_enter Try.func8, Try.ntmps8
  go_wp2_with (first
    | (have m := M0; go_at_call 36; refine (Store_any _).mono ?_; rintro e w1 ⟨b1, rfl, hi1, hb1⟩; have HB1 := hid (b_call hb1 HB0.out); have HI1 := hid hi1; clear hb1 hi1 m M0; have M1 := hid trivial)
    | (have m := M1; go_at_call 28; refine (kBegin _ _ _ _ _ (HI1.out.below (b_alloc (Below.refl _ _) _)) (ints1' _ _ _ (by simp))).mono ?_; rintro e w2 ⟨q, rfl, hs2, hb2⟩; have HB2 := hid (b_call hb2 (b_alloc HB1.out _)); have HS2 := hid hs2; clear hb2 hs2 m M1; have M2 := hid trivial)
    | (have m := M2; go_at_call 31; refine (kRun q _ (HS2.out.below (by have hq := Below.refl w2.heap.size w2; (repeat (first | assumption | exact Below.refl _ _ | refine b_alloc ?_ _ | refine Below.drew ?_ | refine b_drewN ?_ _ | refine Below.setCell ?_ (by first | omega | (simp; done) | (simp; omega)) _ | refine b_call (by assumption) ?_))))).mono ?_; rintro e w3 ⟨pa, pb, pc, ka, kb, kc, rfl, hb3⟩; have HB3 := hid (show Below w.heap.size w w3 from b_call hb3 (by have hq := HB2.out; (repeat (first | assumption | exact Below.refl _ _ | refine b_alloc ?_ _ | refine Below.drew ?_ | refine b_drewN ?_ _ | refine Below.setCell ?_ (by first | omega | (simp; done) | (simp; omega)) _ | refine b_call (by assumption) ?_)))); have T3 := hid (Blk.new w3 #[.slice pa 128 ka, .slice pb 1 kb, .int .i64 1, .slice pc 0 kc, .int .i64 48, .int .i64 0, .int .i64 3, .int .i64 2] 37); clear hb3 m M2; have M3 := hid trivial)
    | (have m := M3; go_at_call 24; refine (kWhen _).mono ?_; rintro e w4 ⟨rfl, hb4⟩; have HB4 := hid (show Below w.heap.size w w4 from b_call hb4 (by have hq := HB3.out; (repeat (first | assumption | exact Below.refl _ _ | refine b_alloc ?_ _ | refine Below.drew ?_ | refine b_drewN ?_ _ | refine Below.setCell ?_ (by first | omega | (simp; done) | (simp; omega)) _ | refine b_call (by assumption) ?_)))); have T4 := hid (T3.out.call hb4); obtain ⟨⟨x0, x1, x2, x3⟩, x4, x5, x6, x7⟩ := stBlk T4.out; clear hb4 m M3; have M4 := hid trivial))
  go_loopw [9] (fun iv wr => ∃ k : Nat, k ≤ 3 ∧ iv = .int .i64 (k : Int) ∧ Below (w4.heap.size + 1) (w4.alloc (.cells #[.int .i64 4194304, .int .i64 14680064, .int .i64 15728640, .int .i64 1, .int .i64 16777215, .int .i64 16777215, .int .i64 8388608, .int .i64 8388608, .int .i64 8388608] 51)) wr) (fun iv _ => 3 - (intOf iv).toNat)
  case atStart => exact ⟨0, by omega, rfl, by have h := Below.refl (w4.alloc (.cells #[.int .i64 4194304, .int .i64 14680064, .int .i64 15728640, .int .i64 1, .int .i64 16777215, .int .i64 16777215, .int .i64 8388608, .int .i64 8388608, .int .i64 8388608] 51)).heap.size (w4.alloc (.cells #[.int .i64 4194304, .int .i64 14680064, .int .i64 15728640, .int .i64 1, .int .i64 16777215, .int .i64 16777215, .int .i64 8388608, .int .i64 8388608, .int .i64 8388608] 51)); rwa [World.size_alloc] at h⟩
  case round =>
    obtain ⟨k, hk, rfl, hbr⟩ := hrel
    have HBR := hid hbr
    clear hbr
    have WB := hid (show Blk wr w4.heap.size 51 #[.int .i64 4194304, .int .i64 14680064, .int .i64 15728640, .int .i64 1, .int .i64 16777215, .int .i64 16777215, .int .i64 8388608, .int .i64 8388608, .int .i64 8388608] from (HBR.out.block w4.heap.size (by omega)).trans (Blk.new w4 _ _))
    by_cases hlt : k < 3
    · obtain ⟨A, B, C, hA, hB, hP, e0, e1, e2⟩ : ∃ A B C : Int, Wd A ∧ Wd B ∧ prodOf B A = C ∧ wr.cell? ⟨w4.heap.size, k * 3, none⟩ = some (.int .i64 A) ∧ wr.cell? ⟨w4.heap.size, k * 3 + 1, none⟩ = some (.int .i64 B) ∧ wr.cell? ⟨w4.heap.size, k * 3 + 2, none⟩ = some (.int .i64 C) := by
        rcases (by omega : k = 0 ∨ k = 1 ∨ k = 2) with rfl | rfl | rfl
        · exact ⟨4194304, 14680064, 15728640, by decide, by decide, kP0, WB.out.cell 0 _ rfl, WB.out.cell 1 _ rfl, WB.out.cell 2 _ rfl⟩
        · exact ⟨1, 16777215, 16777215, by decide, by decide, kP1, WB.out.cell 3 _ rfl, WB.out.cell 4 _ rfl, WB.out.cell 5 _ rfl⟩
        · exact ⟨8388608, 8388608, 8388608, by decide, by decide, kP2, WB.out.cell 6 _ rfl, WB.out.cell 7 _ rfl, WB.out.cell 8 _ rfl⟩
      have HBG := hid (fun p c W h => pBegin A B hA hB p c W h)
      have HRN := hid (fun pa pb pc ka kb kc W h => pRun5 A B hA hB pa pb pc ka kb kc W h)
      rw [hP] at HRN
      clear hA hB hP WB
      go_wp2
      go_cut [10, 11] (fun pv ev wx => ∃ (b : Nat) (pa pb pc : Option Addr) (ka kb kc : Nat), pv = .pointer (some ⟨b, 0, none⟩) ∧ ev = .int .i64 0 ∧ Blk wx b 37 (pCells pa pb pc ka kb kc 0 0 0 0) ∧ StAt wx ⟨pa, pb, pc, ka, kb, kc⟩ (pS A B 0 0 0 0) ∧ Below wr.heap.size wr wx)
      case first =>
        have hsA := fun (W : World) => storeOk8 (Blk.new W zeroCells 37) rfl
        have hd := (Below.refl wr.heap.size wr).drew
        have z4 : w4.heap.size + 1 ≤ wr.heap.size := by have h := HBR.out.size; rwa [World.size_alloc] at h
        go_region_held3 (fun w' => w'.cell? ⟨w4.heap.size, k * 3, none⟩ = some (.int .i64 A) ∧ w'.cell? ⟨w4.heap.size, k * 3 + 1, none⟩ = some (.int .i64 B))
          (((try go_split_ands); refine ⟨?_, ?_⟩ <;> first | exact cell_later (by assumption) (by assumption) | exact cell_later (b_alloc (Below.refl _ _) _) (by assumption) | exact cell_later (b_alloc (Below.refl _ _) _) (cell_later (by assumption) (by assumption)) | exact cell_later (b_alloc (b_alloc (Below.refl _ _) _) _) (by assumption) | exact (World.cell?_of_block (a := ⟨w4.heap.size, _, none⟩) (setRow_other _ _ w4.heap.size _ (by omega))).trans (by assumption)))
          (first
            | (go_at_call 37; refine (written_p _).mono ?_; rintro e w6 ⟨rfl, hb6⟩; have HB6 := hid (show Below wr.heap.size wr w6 from b_call hb6 (by have hq := Below.refl wr.heap.size wr; (repeat (first | assumption | exact Below.refl _ _ | refine b_alloc ?_ _ | refine Below.drew ?_ | refine b_drewN ?_ _ | refine Below.setCell ?_ (by first | omega | (simp; done) | (simp; omega)) _ | refine b_call (by assumption) ?_)))); have z6 := HB6.out.size; (try (with_reducible have X6 := hid (Blk.call (Blk.new wr zeroCells 37) hb6))); (try (with_reducible have X6 := hid (Blk.call (Blk.drew (Blk.new wr zeroCells 37)) hb6))); (try (with_reducible have X6 := hid (Blk.call (Blk.new wr.drew zeroCells 37) hb6))))
            | (go_at_call 28; refine (HBG.out _ _ _ (by first | exact ints3' _ _ _ _ _ (by simp) | exact (ints3' _ _ _ _ _ (by simp)).below (b_alloc (Below.refl _ _) _))).mono ?_; rintro e w7 ⟨pa, pb, pc, ka, kb, kc, rfl, hs7, hb7⟩; have HB7 := hid (show Below wr.heap.size wr w7 from b_call hb7 (by have hq := HB6.out; (repeat (first | assumption | exact Below.refl _ _ | refine b_alloc ?_ _ | refine Below.drew ?_ | refine b_drewN ?_ _ | refine Below.setCell ?_ (by first | omega | (simp; done) | (simp; omega)) _ | refine b_call (by assumption) ?_)))); have z7 := HB7.out.size; have HS7 := hid hs7;
                (try (with_reducible have X7 := hid (Blk.call (X6.out.alloc _) hb7)));
                (try (with_reducible have X7 := hid (Blk.call ((Blk.new w6 zeroCells 37).alloc (.cells #[.int .i64 8405251, .int .i64 A, .int .i64 B] 3)) hb7)));
                (try (with_reducible have X7 := hid (Blk.call (blkN2 w6 (.cells #[.int .i64 8405251, .int .i64 A, .int .i64 B] 3) zeroCells 37) hb7)));
                (try (with_reducible have hsD := storeOk8 X7.out rfl)); clear hs7))
        all_goals
          go_wp2
          go_meet
          refine ⟨_, pa, pb, pc, ka, kb, kc, rfl, rfl, ?_, ?_, ?_⟩
          · first
              | with_reducible exact Blk.row X7.out _
              | with_reducible exact Blk.row (Blk.new _ _ _) _
          · first
              | with_reducible exact stP_keep X7.out rfl HS7.out _
              | with_reducible exact stP_keep (Blk.new w7 _ _) rfl (HS7.out.below (b_alloc (Below.refl _ _) _)) _
          · first
              | with_reducible exact below_setRow HB7.out (by omega) _
              | with_reducible exact below_setRow (b_alloc HB7.out _) (by omega) _
      case rest =>
        obtain ⟨b, pa, pb, pc, ka, kb, kc, rfl, rfl, hblk, hst, hbw⟩ := hcut
        have BS := hid hblk
        have SS := hid hst
        have HBW := hid hbw
        replace e2 := cell_later hbw e2
        obtain ⟨wd, hwd⟩ : ∃ wd, wd = wc := ⟨_, rfl⟩
        subst hwd
        obtain ⟨⟨x0, x1, x2, x3⟩, x4, x5, x6, x7⟩ := stBlk hblk
        clear hblk hst hbw e0 e1
        have hsA := fun (W : World) => storeOk8 (Blk.new W zeroCells 37) rfl
        go_wp2_with (first
          | (go_at_call 31; refine (HRN.out _ _ _ _ _ _ _ (SS.out.below (by have hq := Below.refl wd.heap.size wd; (repeat (first | assumption | exact Below.refl _ _ | refine b_alloc ?_ _ | refine Below.drew ?_ | refine b_drewN ?_ _ | refine Below.setCell ?_ (by first | omega | (simp; done) | (simp; omega)) _ | refine b_call (by assumption) ?_))))).mono ?_; rintro e w7 ⟨pa', pb', pc', ka', kb', kc', rfl, hs7, hb7⟩; have HB7 := hid (show Below wd.heap.size wd w7 from b_call hb7 (by have hq := Below.refl wd.heap.size wd; (repeat (first | assumption | exact Below.refl _ _ | refine b_alloc ?_ _ | refine Below.drew ?_ | refine b_drewN ?_ _ | refine Below.setCell ?_ (by first | omega | (simp; done) | (simp; omega)) _ | refine b_call (by assumption) ?_)))); have HS7 := hid hs7; clear hs7 hb7))
        have z4 : w4.heap.size < w7.heap.size := by
          have h1 := HBR.out.size
          rw [World.size_alloc] at h1
          have h2 := HBW.out.size
          have h3 := HB7.out.size
          omega
        have T8 : Blk ((w7.alloc (.cells zeroCells 37)).setRow w7.heap.size (pCells pa' pb' pc' ka' kb' kc' 19 3 1 1)) w7.heap.size 37 (pCells pa' pb' pc' ka' kb' kc' 19 3 1 1) := Blk.row (Blk.new w7 zeroCells 37) _
        have S8 := stP_keep (Blk.new w7 zeroCells 37) rfl (HS7.out.below (b_alloc (Below.refl _ _) (.cells zeroCells 37))) (pCells pa' pb' pc' ka' kb' kc' 19 3 1 1)
        have HB8 := hid (show Below wd.heap.size wd ((w7.alloc (.cells zeroCells 37)).setRow w7.heap.size (pCells pa' pb' pc' ka' kb' kc' 19 3 1 1)) from below_setRow (b_alloc HB7.out _) HB7.out.size _)
        have e3 : ((w7.alloc (.cells zeroCells 37)).setRow w7.heap.size (pCells pa' pb' pc' ka' kb' kc' 19 3 1 1)).cell? ⟨w4.heap.size, k * 3 + 2, none⟩ = some (.int .i64 C) := (World.cell?_of_block (a := ⟨w4.heap.size, _, none⟩) (setRow_other _ _ w4.heap.size _ (by omega))).trans (cell_later (b_alloc (Below.refl _ _) (.cells zeroCells 37)) (cell_later HB7.out e2))
        generalize (w7.alloc (.cells zeroCells 37)).setRow w7.heap.size (pCells pa' pb' pc' ka' kb' kc' 19 3 1 1) = W8 at *
        obtain ⟨bs, os, rfl, d1, d2⟩ := stP_cells S8
        clear x0 x1 x2 x3 x4 x5 x6 x7 e2
        obtain ⟨⟨x0, x1, x2, x3⟩, x4, x5, x6, x7⟩ := stBlk T8
        clear T8 S8
        go_region_held3 (fun w' => w'.cell? ⟨w7.heap.size, 0, none⟩ = some (.slice (some ⟨bs, os, none⟩) 128 ka') ∧ w'.cell? ⟨w7.heap.size, 4, none⟩ = some (.int .i64 19) ∧ w'.cell? ⟨w7.heap.size, 6, none⟩ = some (.int .i64 1) ∧ w'.cell? ⟨bs, os + 2, none⟩ = some (.int .i64 C) ∧ w'.cell? ⟨w4.heap.size, k * 3 + 2, none⟩ = some (.int .i64 C)) (go_keep) (fail)
        go_wp2
        go_roundw
        case rel => exact ⟨k + 1, by omega, by go_num, HBR.out.trans ((b_call (by have hq := HB8.out; (repeat (first | assumption | exact Below.refl _ _ | refine b_alloc ?_ _ | refine Below.drew ?_ | refine b_drewN ?_ _ | refine Below.setCell ?_ (by first | omega | (simp; done) | (simp; omega)) _ | refine b_call (by assumption) ?_))) HBW.out).mono (by have h := HBR.out.size; rwa [World.size_alloc] at h))⟩
        case measure => simp [intOf]; omega
    · obtain rfl : k = 3 := by omega
      go_wp2_with (go_at_call 23; refine (HA.out _).mono ?_; rintro e w7 ⟨rfl, hb7⟩; have HB7 := hid hb7; clear hb7)
      go_ret
      have hz : w4.heap.size + 1 ≤ wr.heap.size := by have h := HBR.out.size; rwa [World.size_alloc] at h
      have h1 : Below w.heap.size w wr := (b_alloc HB4.out _).trans (HBR.out.mono (by have := HB4.out.size; omega))
      exact ⟨rfl, b_call HB7.out h1⟩
end Go.Proofs.Ytbfhgcnfhjhgcaa
