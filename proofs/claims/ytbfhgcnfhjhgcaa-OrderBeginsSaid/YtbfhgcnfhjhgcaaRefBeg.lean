/-
  The reference's Begin.
-/
import Derived.Test.YtbfhgcnfhjhgcaaBegErr
import Derived.Test.YtbfhgcnfhjhgcaaRefCheck
import Derived.Test.YtbfhgcnfhjhgcaaBegMath
import Derived.Deep.RegionLawGrows
namespace Go.Proofs.Ytbfhgcnfhjhgcaa
open Go.RowKit
set_option linter.unusedVariables false
set_option linter.unusedSimpArgs false
attribute [local go_sem ↓] oper_store

theorem ints_row {W : World} {a : Option Addr} {xs : List Int} {b : Nat} (h : IntsAt W a xs) (hne : ∀ r, blkOf a = some r → r ≠ b) (X : Array Value) : IntsAt (W.setRow b X) a xs := fun j hj => by
  obtain ⟨b', o, rfl, hc⟩ := h j hj
  exact ⟨b', o, rfl, (World.cell?_of_block (a := ⟨b', o + j, none⟩) (setRow_other W b b' X (hne b' rfl))).trans hc⟩
theorem ints_set {W : World} {a : Option Addr} {xs : List Int} {b i : Nat} {v : Value} (h : IntsAt W a xs) (hne : ∀ r, blkOf a = some r → r ≠ b) : IntsAt (W.setCell ⟨b, i, none⟩ v) a xs := fun j hj => by
  obtain ⟨b', o, rfl, hc⟩ := h j hj
  exact ⟨b', o, rfl, (World.cell?_of_block (a := ⟨b', o + j, none⟩) (Below.heap_setCell W ⟨b, i, none⟩ v b' (hne b' rfl))).trans hc⟩
/-- The first k words of a store, and zeros behind them. -/
def Laid0 (store : List Int) (k : Nat) (cs : Array Value) : Prop := cs.size = 128 ∧ ∀ j, j < 128 → cs[j]? = some (.int .i64 (if j < k then store[j]?.getD 0 else 0))
theorem laid0_zero (store : List Int) : Laid0 store 0 (Array.replicate 128 (.int .i64 0)) := ⟨by simp, fun j hj => by rw [Array.getElem?_replicate, if_pos hj, if_neg (by omega)]⟩
theorem laid0_set {store : List Int} {k : Nat} {cs : Array Value} (h : Laid0 store k cs) (hk : k < 128) : Laid0 store (k + 1) (cs.setIfInBounds k (.int .i64 (store[k]?.getD 0))) := by
  refine ⟨by simpa using h.1, fun j hj => ?_⟩
  rw [Array.getElem?_setIfInBounds]
  by_cases e : k = j
  · subst e
    rw [if_pos rfl, if_pos (by rw [h.1]; exact hj), if_pos (by omega)]
  · rw [if_neg e, h.2 j hj]
    by_cases e2 : j < k
    · rw [if_pos e2, if_pos (by omega)]
    · rw [if_neg e2, if_neg (by omega)]
theorem laid0_ints {W : World} {g : Nat} {t : TypeId} {store : List Int} {cs : Array Value} (hl : store.length ≤ 128) (h : Laid0 store store.length cs) (hb : Blk W g t cs) : IntsAt W (some ⟨g, 0, none⟩) (store ++ List.replicate (128 - store.length) 0) := by
  intro j hj
  have hj' : j < 128 := by simp at hj; omega
  refine ⟨g, 0, rfl, ?_⟩
  rw [Nat.zero_add]
  refine hb.cell j _ ((h.2 j hj').trans ?_)
  by_cases e : j < store.length
  · rw [if_pos e, List.getElem?_append_left e]
  · rw [if_neg e, List.getElem?_append_right (by omega), List.getElem?_replicate, if_pos (by omega)]; rfl
theorem blkNew (W : World) (cs : Array Value) (t : TypeId) (n : Nat) (h : n = W.heap.size) : Blk (W.alloc (.cells cs t)) n t cs := by subst h; exact Blk.new W cs t
set_option maxRecDepth 100000 in
set_option maxHeartbeats 4000000 in
theorem refBegin_long (a b : Option Addr) (ca cb : Nat) (store tape : List Int) (start : Int) (h : ¬ (store.length ≤ 128 ∧ tape.length ≤ 200)) (w : World) :
    Calls Try.prog 29 #[.slice a store.length ca, .slice b tape.length cb, .int .i64 start] w (RetS w st0 3) := by
  have B0 := hid (Blk.new w zeroCells 37)
  have HB0 := hid (b_alloc (Below.refl w.heap.size w) (.cells zeroCells 37))
  have hst := storeOk8 B0.out rfl
  have hcs : (128 : Int) < (store.length : Int) ∨ (¬ (128 : Int) < (store.length : Int) ∧ (200 : Int) < (tape.length : Int)) := by omega
  clear h
  rcases hcs with h1 | ⟨h1, h2⟩
  all_goals
    go_enter Try.func29, Try.ntmps29
    go_wp2
    have x8 := B0.out.row zeroCells
    have b8 := below_setRow HB0.out (Nat.le_refl w.heap.size) zeroCells
    obtain ⟨⟨z0, z1, z2, z3⟩, z4, z5, z6, z7⟩ := stBlk x8
    generalize World.setRow (w.alloc (.cells zeroCells 37)) w.heap.size zeroCells = WF at *
    refine ⟨rfl, .tuple #[.agg zeroCells, .int .i64 3], ?_, slNone, rfl, stAt0 _, b8⟩
    simp [results, Try.f29, go_sem, z0, z1, z2, z3, z4, z5, z6, z7]
set_option maxRecDepth 100000 in
set_option maxHeartbeats 4000000 in
theorem refBegin_range (a b : Option Addr) (ca cb : Nat) (store tape : List Int) (start : Int) (h1 : store.length ≤ 128) (h2 : tape.length ≤ 200) (h : ¬ (outW store < 0 ∧ outW tape < 0 ∧ Ad start)) (w : World) (hx : IntsAt w a store) (hy : IntsAt w b tape) :
    Calls Try.prog 29 #[.slice a store.length ca, .slice b tape.length cb, .int .i64 start] w (RetS w st0 7) := by
  have B0 := hid (Blk.new w zeroCells 37)
  have HB0 := hid (b_alloc (Below.refl w.heap.size w) (.cells zeroCells 37))
  have hst := storeOk8 B0.out rfl
  have HX := hid hx
  have HY := hid hy
  have HS := hid (fun W a c g => odd_any a c store (by unfold Len; omega) W g)
  have HT := hid (fun W a c g => odd_any a c tape (by unfold Len; omega) W g)
  have ha := fun W => Address_any start W
  have g1 : ¬ (128 : Int) < (store.length : Int) := by omega
  have g2 : ¬ (200 : Int) < (tape.length : Int) := by omega
  have hcs : 0 ≤ outW store ∨ (¬ 0 ≤ outW store ∧ 0 ≤ outW tape) ∨ (¬ 0 ≤ outW store ∧ ¬ 0 ≤ outW tape ∧ ¬ Ad start) := by
    by_cases k1 : 0 ≤ outW store
    · exact .inl k1
    · by_cases k2 : 0 ≤ outW tape
      · exact .inr (.inl ⟨k1, k2⟩)
      · exact .inr (.inr ⟨k1, k2, fun k3 => h ⟨by omega, by omega, k3⟩⟩)
  have M0 := hid trivial
  clear hx hy h
  rcases hcs with k1 | ⟨k1, k2⟩ | ⟨k1, k2, k3⟩
  · clear ha
    go_enter Try.func29, Try.ntmps29
    go_wp2_with (first
      | (have m := M0; go_at_call 55; refine (HS.out _ _ _ (HX.out.below (b_alloc (Below.refl _ _) _))).mono ?_; rintro e w' ⟨rfl, rfl⟩; clear m M0; have M1 := hid trivial))
    have x8 := B0.out.row zeroCells
    have b8 := below_setRow HB0.out (Nat.le_refl w.heap.size) zeroCells
    obtain ⟨⟨z0, z1, z2, z3⟩, z4, z5, z6, z7⟩ := stBlk x8
    generalize World.setRow (w.alloc (.cells zeroCells 37)) w.heap.size zeroCells = WF at *
    refine ⟨rfl, .tuple #[.agg zeroCells, .int .i64 7], ?_, slNone, rfl, stAt0 _, b8⟩
    simp [results, Try.f29, go_sem, z0, z1, z2, z3, z4, z5, z6, z7]
  · clear ha
    go_enter Try.func29, Try.ntmps29
    go_wp2_with (first
      | (have m := M0; go_at_call 55; refine (HS.out _ _ _ (HX.out.below (b_alloc (Below.refl _ _) _))).mono ?_; rintro e w' ⟨rfl, rfl⟩; clear m M0; have M1 := hid trivial)
      | (have m := M1; go_at_call 55; refine (HT.out _ _ _ (HY.out.below (b_alloc (Below.refl _ _) _))).mono ?_; rintro e w' ⟨rfl, rfl⟩; clear m M1))
    have x8 := B0.out.row zeroCells
    have b8 := below_setRow HB0.out (Nat.le_refl w.heap.size) zeroCells
    obtain ⟨⟨z0, z1, z2, z3⟩, z4, z5, z6, z7⟩ := stBlk x8
    generalize World.setRow (w.alloc (.cells zeroCells 37)) w.heap.size zeroCells = WF at *
    refine ⟨rfl, .tuple #[.agg zeroCells, .int .i64 7], ?_, slNone, rfl, stAt0 _, b8⟩
    simp [results, Try.f29, go_sem, z0, z1, z2, z3, z4, z5, z6, z7]
  · rw [decide_eq_false k3] at ha
    have HA := hid ha
    clear ha k3
    go_enter Try.func29, Try.ntmps29
    go_wp2_with (first
      | (have m := M0; go_at_call 55; refine (HS.out _ _ _ (HX.out.below (b_alloc (Below.refl _ _) _))).mono ?_; rintro e w' ⟨rfl, rfl⟩; clear m M0; have M1 := hid trivial)
      | (have m := M1; go_at_call 55; refine (HT.out _ _ _ (HY.out.below (b_alloc (Below.refl _ _) _))).mono ?_; rintro e w' ⟨rfl, rfl⟩; clear m M1)
      | (go_at_call 56; refine (HA.out _).mono ?_; rintro e w' ⟨rfl, rfl⟩))
    have x8 := B0.out.row zeroCells
    have b8 := below_setRow HB0.out (Nat.le_refl w.heap.size) zeroCells
    obtain ⟨⟨z0, z1, z2, z3⟩, z4, z5, z6, z7⟩ := stBlk x8
    generalize World.setRow (w.alloc (.cells zeroCells 37)) w.heap.size zeroCells = WF at *
    refine ⟨rfl, .tuple #[.agg zeroCells, .int .i64 7], ?_, slNone, rfl, stAt0 _, b8⟩
    simp [results, Try.f29, go_sem, z0, z1, z2, z3, z4, z5, z6, z7]
set_option maxRecDepth 100000 in
set_option maxHeartbeats 8000000 in
theorem refBegin_ok (a b : Option Addr) (ca cb : Nat) (store tape : List Int) (start : Int) (h1 : store.length ≤ 128) (h2 : tape.length ≤ 200) (h3 : outW store = -1) (h4 : outW tape = -1) (h5 : Ad start) (w : World) (hx : IntsAt w a store) (hy : IntsAt w b tape) :
    Calls Try.prog 29 #[.slice a store.length ca, .slice b tape.length cb, .int .i64 start] w (RetS w (begSt store tape start) 0) := by
  obtain ⟨iI, hiI, hzI0, hzI1, hzI2⟩ := info_parts infoI
  have hmk : ∀ w, (Instr.makeSlice 35 (.int .i64 128) (.int .i64 128)).run Try.prog w = .ok (.slice (some ⟨w.heap.size, 0, none⟩) 128 128) (w.alloc (.cells (Array.replicate 128 (.int .i64 0)) 3)) := fun _ => by kernel_rfl
  have B0 := hid (Blk.new w zeroCells 37)
  have HB0 := hid (b_alloc (Below.refl w.heap.size w) (.cells zeroCells 37))
  have HX := hid hx
  have HY := hid hy
  have hs := fun W a c g => odd_any a c store (by unfold Len; omega) W g
  have ht := fun W a c g => odd_any a c tape (by unfold Len; omega) W g
  rw [h3] at hs
  rw [h4] at ht
  have HS := hid hs
  have HT := hid ht
  have ha := fun W => Address_any start W
  rw [decide_eq_true h5] at ha
  have HA := hid ha
  have g1 : ¬ (128 : Int) < (store.length : Int) := by omega
  have g2 : ¬ (200 : Int) < (tape.length : Int) := by omega
  have M0 := hid trivial
  clear hs ht ha hx hy h3 h4
  go_enter Try.func29, Try.ntmps29
  go_wp2_with (first
    | (have m := M0; go_at_call 55; refine (HS.out _ _ _ (HX.out.below (b_alloc (Below.refl _ _) _))).mono ?_; rintro e w' ⟨rfl, rfl⟩; clear m M0; have M1 := hid trivial)
    | (have m := M1; go_at_call 55; refine (HT.out _ _ _ (HY.out.below (b_alloc (Below.refl _ _) _))).mono ?_; rintro e w' ⟨rfl, rfl⟩; clear m M1)
    | (go_at_call 56; refine (HA.out _).mono ?_; rintro e w' ⟨rfl, rfl⟩))
  have hm : start.tmod 16 = start % 16 := Int.tmod_eq_emod_of_nonneg h5.1
  go_cut [8] (fun c8 wx => ∃ (b8 g : Nat) (a2 : Option Addr) (c2 : Nat), c8 = .pointer (some ⟨b8, 0, none⟩) ∧ Blk wx b8 37 #[.slice (some ⟨g, 0, none⟩) 128 128, .slice a2 tape.length c2, .int .i64 0, .slice none 0 0, .int .i64 (start % 16), .int .i64 start, .int .i64 0, .int .i64 0] ∧
    Blk wx g 3 (Array.replicate 128 (.int .i64 0)) ∧ IntsAt wx a2 tape ∧ (∀ r, blkOf a2 = some r → r ≠ g ∧ w.heap.size < r) ∧ b8 ≠ g ∧ w.heap.size < g ∧ w.heap.size < b8 ∧ Below (w.alloc (.cells zeroCells 37)).heap.size (w.alloc (.cells zeroCells 37)) wx)
  case first =>
    have hZ : (w.alloc (.cells zeroCells 37)).heap.size = w.heap.size + 1 := World.size_alloc _ _
    have hsA := fun (W : World) => storeOk8 (Blk.new W zeroCells 37) rfl
    have hsB := fun (W : World) (o : Obj) => storeOk8 (blkN2 W o zeroCells 37) rfl
    have hsC := fun (W : World) (o : Obj) => storeOk8 ((Blk.new W zeroCells 37).alloc o) rfl
    have hsD := fun (W : World) (o o' : Obj) => storeOk8 (((Blk.new W zeroCells 37).alloc o).alloc o') rfl
    have hsE := fun (W : World) (o o' : Obj) => storeOk8 ((blkN2 W o zeroCells 37).alloc o') rfl
    by_cases hem : tape = []
    · subst hem
      rcases b with _ | ad
      all_goals
        go_region_law (fail)
        all_goals
          go_wp2
          go_meet
          apply Exists.intro
          apply Exists.intro
          apply Exists.intro
          apply Exists.intro
          refine ⟨rfl, ?_, ?_, ?_, ?_, ?_, ?_, ?_, ?_⟩
          · (repeat (first | assumption | exact blkNew _ _ _ _ (by simp only [World.size_alloc, World.size_drew]) | refine Blk.row (old := zeroCells) ?_ _ | refine Blk.rowOther ?_ (by omega) _ | refine Blk.alloc ?_ _ | refine Blk.drew ?_ ))
          · (repeat (first | assumption | exact blkNew _ _ _ _ (by simp only [World.size_alloc, World.size_drew]) | refine Blk.row (old := zeroCells) ?_ _ | refine Blk.rowOther ?_ (by omega) _ | refine Blk.alloc ?_ _ | refine Blk.drew ?_ ))
          · exact fun j hj => by simp at hj
          · intro r e; simp [blkOf] at e; omega
          · omega
          · omega
          · omega
          · first
              | with_reducible exact below_setRow (by have hq := Below.refl (w.alloc (.cells zeroCells 37)).heap.size (w.alloc (.cells zeroCells 37)); (repeat (first | assumption | exact Below.refl _ _ | refine b_alloc ?_ _ | refine Below.drew ?_ | refine b_drewN ?_ _ | refine Below.setCell ?_ (by first | omega | (simp; done) | (simp; omega)) _ | refine b_call (by assumption) ?_))) (by omega) _
              | (have hq := Below.refl (w.alloc (.cells zeroCells 37)).heap.size (w.alloc (.cells zeroCells 37)); (repeat (first | assumption | exact Below.refl _ _ | refine b_alloc ?_ _ | refine Below.drew ?_ | refine b_drewN ?_ _ | refine Below.setCell ?_ (by first | omega | (simp; done) | (simp; omega)) _ | refine b_call (by assumption) ?_)))
    · have hn0 : 0 < tape.length := List.length_pos_iff.2 hem
      obtain ⟨bt, ot, rfl, hct⟩ := ints_addr' HY.out hn0
      have HTC := hid (show ∀ W, Below w.heap.size w W → ∀ (j : Nat) (u : Value), (tape.map (Value.int .i64))[j]? = some u → W.cell? ((⟨bt, ot, none⟩ : Addr).add j) = some u from fun W hW j u hu => by
        have hj : j < tape.length := by have := (List.getElem?_eq_some_iff.1 hu).1; simpa using this
        rw [Addr.add_lit, cell_later hW (hct j hj), ← hu]
        simp [hj])
      clear hct
      go_region_law (refine step_append_grows rfl (.tmp 34) (.tmp 35) 35 rfl 3 iI (.int .i64 0) 1 8 Try.underlying35 hiI hzI0 hzI1 hzI2 rfl (by decide) _ 0 0 [] rfl (fun e => by cases e) rfl (fun b e j u hj => by simp at hj) ⟨bt, ot, none⟩ tape.length cb (tape.map (Value.int .i64)) rfl (by simp) (HTC.out _ (by have hq := Below.refl w.heap.size w; (repeat (first | assumption | exact Below.refl _ _ | refine b_alloc ?_ _ | refine Below.drew ?_ | refine b_drewN ?_ _ | refine Below.setCell ?_ (by first | omega | (simp; done) | (simp; omega)) _ | refine b_call (by assumption) ?_)))) (by intro u hu; obtain ⟨x, _, rfl⟩ := List.mem_map.1 hu; rfl) (by omega) (by unfold maxLen; omega) (by omega) ?_; intro v' w' hown hg; simp only [Nat.zero_add, List.nil_append] at hown; obtain ⟨a4, c4, rfl, _⟩ := rowInts rfl hown; have hlt := hown.lt; have hz := hg.size; simp only [World.size_alloc, World.size_drew] at hlt hz; have HIN := hid (rowsAt rfl hown); have HBg := hid (Below.grown (show Below (w.alloc (.cells zeroCells 37)).heap.size (w.alloc (.cells zeroCells 37)) _ from (by have hq := Below.refl (w.alloc (.cells zeroCells 37)).heap.size (w.alloc (.cells zeroCells 37)); (repeat (first | assumption | exact Below.refl _ _ | refine b_alloc ?_ _ | refine Below.drew ?_ | refine b_drewN ?_ _ | refine Below.setCell ?_ (by first | omega | (simp; done) | (simp; omega)) _ | refine b_call (by assumption) ?_)))) hg (by simp only [World.size_alloc, World.size_drew]; omega) (fun k e => by cases e));
                        (try (with_reducible have XB0 := Blk.grown (Blk.new _ zeroCells 37) hg (fun r e => by cases e); simp only [World.size_alloc, World.size_drew] at XB0; have hsF0 := storeOk8 XB0 rfl; have hsG0 := fun (o : Obj) => storeOk8 (XB0.alloc o) rfl));
                        (try (with_reducible have XB1 := Blk.grown (Blk.drew (Blk.new _ zeroCells 37)) hg (fun r e => by cases e); simp only [World.size_alloc, World.size_drew] at XB1; have hsF1 := storeOk8 XB1 rfl; have hsG1 := fun (o : Obj) => storeOk8 (XB1.alloc o) rfl));
                        (try (with_reducible have XB2 := Blk.grown ((Blk.new _ zeroCells 37).alloc _) hg (fun r e => by cases e); simp only [World.size_alloc, World.size_drew] at XB2; have hsF2 := storeOk8 XB2 rfl; have hsG2 := fun (o : Obj) => storeOk8 (XB2.alloc o) rfl));
                        (try (with_reducible have XB3 := Blk.grown (Blk.drew ((Blk.new _ zeroCells 37).alloc _)) hg (fun r e => by cases e); simp only [World.size_alloc, World.size_drew] at XB3; have hsF3 := storeOk8 XB3 rfl; have hsG3 := fun (o : Obj) => storeOk8 (XB3.alloc o) rfl));
                        (try (with_reducible have XB4 := Blk.grown (((Blk.new _ zeroCells 37).alloc _).alloc _) hg (fun r e => by cases e); simp only [World.size_alloc, World.size_drew] at XB4; have hsF4 := storeOk8 XB4 rfl; have hsG4 := fun (o : Obj) => storeOk8 (XB4.alloc o) rfl));
                        (try (with_reducible have XB5 := Blk.grown (Blk.drew (((Blk.new _ zeroCells 37).alloc _).alloc _)) hg (fun r e => by cases e); simp only [World.size_alloc, World.size_drew] at XB5; have hsF5 := storeOk8 XB5 rfl; have hsG5 := fun (o : Obj) => storeOk8 (XB5.alloc o) rfl));
                        clear hown)
      all_goals
        go_wp2
        go_meet
        apply Exists.intro
        apply Exists.intro
        refine ⟨a4, c4, rfl, ?_, ?_, ?_, ?_, ?_, ?_, ?_, ?_⟩
        · (repeat (with_reducible first | assumption | exact blkNew _ _ _ _ (by simp only [World.size_alloc, World.size_drew]) | refine Blk.row (old := zeroCells) ?_ _ | refine Blk.rowOther ?_ (by omega) _ | refine Blk.alloc ?_ _ | refine Blk.drew ?_ | refine Blk.grown ?_ (by assumption) (fun r e => by cases e)))
        · (repeat (with_reducible first | assumption | exact blkNew _ _ _ _ (by simp only [World.size_alloc, World.size_drew]) | refine Blk.row (old := zeroCells) ?_ _ | refine Blk.rowOther ?_ (by omega) _ | refine Blk.alloc ?_ _ | refine Blk.drew ?_ | refine Blk.grown ?_ (by assumption) (fun r e => by cases e)))
        · first
            | with_reducible exact ints_row (HIN.out.below (by have hq := Below.refl w'.heap.size w'; (repeat (first | assumption | exact Below.refl _ _ | refine b_alloc ?_ _ | refine Below.drew ?_ | refine b_drewN ?_ _ | refine Below.setCell ?_ (by first | omega | (simp; done) | (simp; omega)) _ | refine b_call (by assumption) ?_)))) (fun r e => by have := hlt r (by rw [own_slice]; exact e); omega) _
            | exact HIN.out.below (by have hq := Below.refl w'.heap.size w'; (repeat (first | assumption | exact Below.refl _ _ | refine b_alloc ?_ _ | refine Below.drew ?_ | refine b_drewN ?_ _ | refine Below.setCell ?_ (by first | omega | (simp; done) | (simp; omega)) _ | refine b_call (by assumption) ?_)))
        · intro r e
          have := hlt r (by rw [own_slice]; exact e)
          omega
        · omega
        · omega
        · omega
        · first
            | with_reducible exact below_setRow (by have hq := HBg.out; (repeat (first | assumption | exact Below.refl _ _ | refine b_alloc ?_ _ | refine Below.drew ?_ | refine b_drewN ?_ _ | refine Below.setCell ?_ (by first | omega | (simp; done) | (simp; omega)) _ | refine b_call (by assumption) ?_))) (by omega) _
            | (have hq := HBg.out; (repeat (first | assumption | exact Below.refl _ _ | refine b_alloc ?_ _ | refine Below.drew ?_ | refine b_drewN ?_ _ | refine Below.setCell ?_ (by first | omega | (simp; done) | (simp; omega)) _ | refine b_call (by assumption) ?_)))
  case rest =>
    obtain ⟨b8, g, a2, c2, rfl, hb8, hbg, hin, hag, hne, hlg, hlb, hbw⟩ := hcut
    have HXZ := hid (show IntsAt (w.alloc (.cells zeroCells 37)) a store from HX.out.below (b_alloc (Below.refl _ _) _))
    have HBW := hid hbw
    have HB8 := hid hb8
    have HIN := hid hin
    have HBG := hid hbg
    clear hb8 hbg hin hbw
    go_wp2
    go_loopw [9] (fun iv wr => ∃ (k : Nat) (cs : Array Value), k ≤ store.length ∧ iv = .int .i64 (k : Int) ∧ Laid0 store k cs ∧ Blk wr g 3 cs ∧ Blk wr b8 37 #[.slice (some ⟨g, 0, none⟩) 128 128, .slice a2 tape.length c2, .int .i64 0, .slice none 0 0, .int .i64 (start % 16), .int .i64 start, .int .i64 0, .int .i64 0] ∧ IntsAt wr a2 tape ∧ Below (w.alloc (.cells zeroCells 37)).heap.size (w.alloc (.cells zeroCells 37)) wr) (fun iv _ => store.length - (intOf iv).toNat)
    case atStart => exact ⟨0, _, by omega, rfl, laid0_zero store, HBG.out, HB8.out, HIN.out, HBW.out⟩
    case round =>
      obtain ⟨k, cs, hk, rfl, hcs, hg, h8, hin, hbr⟩ := hrel
      have hbz : Below (w.alloc (.cells zeroCells 37)).heap.size (w.alloc (.cells zeroCells 37)) wr := hbr
      have hZ : (w.alloc (.cells zeroCells 37)).heap.size = w.heap.size + 1 := World.size_alloc _ _
      have BR := hid (show Blk wr w.heap.size 37 zeroCells from (hbr.block w.heap.size (by omega)).trans B0.out)
      have hgl := hg.lt
      have h8l := h8.lt
      by_cases hlt : k < store.length
      · obtain ⟨bs, os, rfl, hc⟩ := HXZ.out.below hbr k hlt
        have hbs : bs ≠ g := fun e => by
          obtain ⟨b', o', e', hc'⟩ := HXZ.out k hlt
          injection e' with e'
          injection e' with e1 e2
          have := World.block_lt_of_cell? _ _ hc'
          simp only at this
          omega
        have y0 : wr.cell? ⟨b8, 0, none⟩ = some (.slice (some ⟨g, 0, none⟩) 128 128) := h8.cell 0 _ rfl
        have y1 := hg.cell k _ (hcs.2 k (by omega))
        have y2 := hg.frozen k
        have y3 : wr.drew.cell? ⟨b8, 0, none⟩ = some (.slice (some ⟨g, 0, none⟩) 128 128) := y0
        have y4 : wr.drew.cell? ⟨g, k, none⟩ = _ := y1
        have y5 : wr.drew.frozen? ⟨g, k, none⟩ = false := y2
        have y6 : wr.drew.cell? ⟨bs, os + k, none⟩ = some (.int .i64 (store[k]?.getD 0)) := hc
        have k128 : (k : Int) < 128 := by omega
        have HCS := hid hcs
        have HG := hid hg
        have H8 := hid h8
        have HI := hid hin
        have HBZ := hid hbz
        clear hcs hg h8 hin hbz hbr
        have hsk : store[k]?.getD 0 = store[k] := by simp [hlt]
        go_wp2
        go_region
        go_wp2
        go_roundw
        case rel => exact ⟨k + 1, cs.setIfInBounds k (.int .i64 store[k]), by omega, by go_num, by have h := laid0_set HCS.out (show k < 128 by omega); rwa [hsk] at h, HG.out.set k _, H8.out.other hne _, ints_set HI.out (fun r e => (hag r e).1), (HBZ.out.setCell (p := ⟨g, k, none⟩) (by rw [hZ]; exact hlg) _).drew⟩
        case measure => simp [intOf]; omega
      · obtain rfl : k = store.length := by omega
        obtain ⟨⟨x0, x1, x2, x3⟩, x4, x5, x6, x7⟩ := stBlk h8
        have hx1 := laid0_ints h1 hcs hg
        have hst := storeOk8 BR.out rfl
        have HI := hid hin
        have HBZ := hid hbz
        clear hcs hg h8 hin hbz hbr
        go_wp2
        have x8 := BR.out.row #[.slice (some ⟨g, 0, none⟩) 128 128, .slice a2 tape.length c2, .int .i64 0, .slice none 0 0, .int .i64 (start % 16), .int .i64 start, .int .i64 0, .int .i64 0]
        obtain ⟨⟨z0, z1, z2, z3⟩, z4, z5, z6, z7⟩ := stBlk x8
        have hln : (store ++ List.replicate (128 - store.length) (0 : Int)).length = 128 := by simp; omega
        have hs8 : StAt (World.setRow wr w.heap.size #[.slice (some ⟨g, 0, none⟩) 128 128, .slice a2 tape.length c2, .int .i64 0, .slice none 0 0, .int .i64 (start % 16), .int .i64 start, .int .i64 0, .int .i64 0]) ⟨some ⟨g, 0, none⟩, a2, none, 128, c2, 0⟩ (begSt store tape start) :=
          ⟨ints_row hx1 (fun r e => by injection e with e; simp only at e; omega) _, ints_row HI.out (fun r e => by have := (hag r e).2; omega) _, fun j hj => by simp [begSt] at hj⟩
        have hb8 : Below w.heap.size w (World.setRow wr w.heap.size #[.slice (some ⟨g, 0, none⟩) 128 128, .slice a2 tape.length c2, .int .i64 0, .slice none 0 0, .int .i64 (start % 16), .int .i64 start, .int .i64 0, .int .i64 0]) := below_setRow ((b_alloc (Below.refl _ _) _).trans (HBZ.out.mono (by rw [hZ]; omega))) (Nat.le_refl w.heap.size) _
        generalize World.setRow wr w.heap.size #[.slice (some ⟨g, 0, none⟩) 128 128, .slice a2 tape.length c2, .int .i64 0, .slice none 0 0, .int .i64 (start % 16), .int .i64 start, .int .i64 0, .int .i64 0] = WF at *
        have hv : stVal ⟨some ⟨g, 0, none⟩, a2, none, 128, c2, 0⟩ (begSt store tape start) = .agg #[.slice (some ⟨g, 0, none⟩) 128 128, .slice a2 tape.length c2, .int .i64 0, .slice none 0 0, .int .i64 (start % 16), .int .i64 start, .int .i64 0, .int .i64 0] := by
          simp only [stVal, stCells, begSt, hln]; rfl
        refine ⟨rfl, .tuple #[.agg #[.slice (some ⟨g, 0, none⟩) 128 128, .slice a2 tape.length c2, .int .i64 0, .slice none 0 0, .int .i64 (start % 16), .int .i64 start, .int .i64 0, .int .i64 0], .int .i64 0], ?_, ⟨some ⟨g, 0, none⟩, a2, none, 128, c2, 0⟩, by rw [hv], hs8, hb8⟩
        simp [results, Try.f29, go_sem, z0, z1, z2, z3, z4, z5, z6, z7]
theorem refBegin_any (a b : Option Addr) (ca cb : Nat) (store tape : List Int) (start : Int) (w : World) (hx : IntsAt w a store) (hy : IntsAt w b tape) :
    Calls Try.prog 29 #[.slice a store.length ca, .slice b tape.length cb, .int .i64 start] w (RetS w (begOf store tape start) (begErr store tape start)) := by
  unfold begOf begErr
  by_cases h1 : store.length ≤ 128 ∧ tape.length ≤ 200
  · rw [if_pos h1]
    by_cases h2 : outW store < 0 ∧ outW tape < 0 ∧ Ad start
    · rw [if_pos h2, if_pos rfl]
      exact refBegin_ok a b ca cb store tape start h1.1 h1.2 (outW_one h2.1) (outW_one h2.2.1) h2.2.2 w hx hy
    · rw [if_neg h2, if_neg (by decide)]
      exact refBegin_range a b ca cb store tape start h1.1 h1.2 h2 w hx hy
  · rw [if_neg h1, if_neg (by decide)]
    exact refBegin_long a b ca cb store tape start h1 w
end Go.Proofs.Ytbfhgcnfhjhgcaa
