/-
  Begin: the state with which a run begins.
-/
import Derived.Laws.CopyOwn
import Derived.Test.YtbfhgcnfhjhgcaaRetSt
namespace Go.Proofs.Ytbfhgcnfhjhgcaa
open Go.RowKit
set_option linter.unusedVariables false
set_option linter.unusedSimpArgs false

def begErr (store tape : List Int) (start : Int) : Int := if store.length ≤ 128 ∧ tape.length ≤ 200 then (if outW store < 0 ∧ outW tape < 0 ∧ Ad start then 0 else 7) else 3
def begSt (store tape : List Int) (start : Int) : St := ⟨store ++ List.replicate (128 - store.length) 0, tape, 0, [], start % 16, start, 0, 0⟩
theorem blkN2 (W : World) (o : Obj) (c : Array Value) (t : TypeId) : Blk ((W.alloc o).alloc (.cells c t)) (W.heap.size + 1) t c := by
  have := Blk.new (W.alloc o) c t
  rwa [World.size_alloc] at this
theorem blkL1 {W w4 : World} {c : Array Value} {t : TypeId} (hb : Below ((W.alloc (.cells c t)).drew).heap.size ((W.alloc (.cells c t)).drew) w4) : Blk w4 W.heap.size t c := Blk.call (Blk.drew (Blk.new W c t)) hb
theorem blkL2 {W w4 : World} {c c' : Array Value} {t t' : TypeId} (hb : Below (((W.alloc (.cells c t)).alloc (.cells c' t')).drew).heap.size (((W.alloc (.cells c t)).alloc (.cells c' t')).drew) w4) : Blk w4 W.heap.size t c ∧ Blk w4 (W.heap.size + 1) t' c' := ⟨Blk.call (Blk.drew ((Blk.new W c t).alloc _)) hb, Blk.call (Blk.drew (blkN2 W _ c' t')) hb⟩
theorem grown_set' (W : World) (b i : Nat) (v : Value) : W.grownBy (W.setCell ⟨b, i, none⟩ v) (some b) := ⟨rfl, rfl, rfl, by simp, fun k hk hne => Below.heap_setCell W _ _ k (fun e => hne (by rw [e]))⟩
theorem row8 {W : World} {b base n : Nat} {v : Value} {xs : List Value} (h : W.ownsRow base 3 1 v n xs) (hne : v.ownBlock ≠ some b) (v0 v1 v2 v3 v4 v5 v6 v7 : Value) :
    ((((((((W.setCell ⟨b, 0, none⟩ v0).setCell ⟨b, 1, none⟩ v1).setCell ⟨b, 2, none⟩ v2).setCell ⟨b, 3, none⟩ v3).setCell ⟨b, 4, none⟩ v4).setCell ⟨b, 5, none⟩ v5).setCell ⟨b, 6, none⟩ v6).setCell ⟨b, 7, none⟩ v7).ownsRow base 3 1 v n xs :=
  (((((((h.kept (grown_set' _ _ _ _) (.inr hne)).kept (grown_set' _ _ _ _) (.inr hne)).kept (grown_set' _ _ _ _) (.inr hne)).kept (grown_set' _ _ _ _) (.inr hne)).kept (grown_set' _ _ _ _) (.inr hne)).kept (grown_set' _ _ _ _) (.inr hne)).kept (grown_set' _ _ _ _) (.inr hne)).kept (grown_set' _ _ _ _) (.inr hne)

theorem zeros_at {W : World} {g : Nat} {t : TypeId} (h : Blk W g t (Array.replicate 128 (.int .i64 0))) : IntsAt W (some ⟨g, 0, none⟩) (List.replicate 128 0) := by
  intro j hj
  have hj' : j < 128 := by rwa [List.length_replicate] at hj
  refine ⟨g, 0, rfl, ?_⟩
  rw [Nat.zero_add, List.getElem?_replicate, if_pos hj']
  exact h.cell j (.int .i64 0) (by rw [Array.getElem?_replicate, if_pos hj'])
theorem wpList_copy_hid {P : Program} {w : World} {ops : Array Oper} {rest : List Oper} {o : Oper} {a : Act} {Q : Exit → Act → World → Prop} (hgd : o.guard = none) (d s : Operand) (dT sT : TypeId)
    (ho : o.op = .call { callee := .builtin .copy, args := #[d, s], argTypes := #[dT, sT] }) (elem : TypeId) (hu : P.underlying dT = some (.slice elem)) (hsz : (P.info? elem).map (·.size) = some 1)
    (g off dLen dCap : Nat) (ad : Addr) (sLen sCap : Nat) (hd : a.eval d = .slice (some ⟨g, off, none⟩) dLen dCap) (hs : a.eval s = .slice (some ad) sLen sCap)
    (cur : Array Value) (t : TypeId) (hg : w.heap[g]? = some (.cells cur t (0, 0))) (cs : List Value) (hn : cs.length = Nat.min sLen dLen)
    (hsrc : ∀ j v, cs[j]? = some v → w.cell? (ad.add j) = some v) (hfit : off + cs.length ≤ cur.size) (h1 : ∀ v ∈ cs, v.oneCell' = true)
    (X : Array Value) (hX : (cur.toList.take off ++ (cs ++ cur.toList.drop (off + cs.length))).toArray = X) (h : ∀ w', Hid (w' = w.setRow g X) → wpList P ops Q rest (a.put o.dst (goInt cs.length)) w') : wpList P ops Q (o :: rest) a w :=
  wpList_copy_own hgd d s dT sT ho elem hu hsz g off dLen dCap ad sLen sCap hd hs cur t hg cs hn hsrc hfit h1 (by rw [hX]; exact h _ rfl)
theorem copied_at {W : World} {g : Nat} {t : TypeId} {store : List Int} (h1 : store.length ≤ 128) (h : Blk W g t ((Array.replicate 128 (Value.int .i64 0)).toList.take 0 ++ (store.map (Value.int .i64) ++ (Array.replicate 128 (Value.int .i64 0)).toList.drop (0 + (store.map (Value.int .i64)).length))).toArray) : IntsAt W (some ⟨g, 0, none⟩) (store ++ List.replicate (128 - store.length) 0) := by
  intro j hj
  have hj' : j < 128 := by simp at hj; omega
  refine ⟨g, 0, rfl, ?_⟩
  rw [Nat.zero_add]
  refine h.cell j _ ?_
  rw [List.getElem?_toArray, Array.toList_replicate, List.take_zero, List.nil_append, List.drop_replicate, List.length_map, Nat.zero_add]
  by_cases hl : j < store.length
  · rw [List.getElem?_append_left (by rwa [List.length_map]), List.getElem?_append_left hl, List.getElem?_map, List.getElem?_eq_getElem hl]; rfl
  · rw [List.getElem?_append_right (by rw [List.length_map]; omega), List.getElem?_append_right (by omega), List.length_map, List.getElem?_replicate, List.getElem?_replicate, if_pos (by omega), if_pos (by omega)]; rfl
theorem grown_row (W : World) (b : Nat) (cs : Array Value) : W.grownBy (W.setRow b cs) (some b) := ⟨rfl, rfl, rfl, by simp, fun k hk hne => setRow_other W b k cs (fun e => hne (by rw [e]))⟩
attribute [local go_sem ↓] oper_store
set_option maxRecDepth 100000 in
set_option maxHeartbeats 8000000 in
theorem begin_ok (a b : Option Addr) (ca cb : Nat) (store tape : List Int) (start : Int) (h1 : store.length ≤ 128) (h2 : tape.length ≤ 200) (h3 : outW store = -1) (h4 : outW tape = -1) (h5 : Ad start) (w : World) (hx : IntsAt w a store) (hy : IntsAt w b tape) :
    Calls Try.prog 28 #[.slice a store.length ca, .slice b tape.length cb, .int .i64 start] w (RetS w (begSt store tape start) 0) := by
  obtain ⟨iI, hiI, hzI0, hzI1, hzI2⟩ := info_parts infoI
  have hmk : ∀ w, (Instr.makeSlice 35 (.int .i64 128) (.int .i64 128)).run Try.prog w = .ok (.slice (some ⟨w.heap.size, 0, none⟩) 128 128) (w.alloc (.cells (Array.replicate 128 (.int .i64 0)) 3)) := fun _ => by kernel_rfl
  have B0 := hid (Blk.new w zeroCells 37)
  have HX := hid hx
  have HY := hid hy
  have hs := fun W a c g => outW_any a c store (by unfold Len; omega) W g
  have ht := fun W a c g => outW_any a c tape (by unfold Len; omega) W g
  rw [h3] at hs
  rw [h4] at ht
  have HS := hid hs
  have HT := hid ht
  have ha := fun W => isAddress_any start W
  rw [decide_eq_true h5] at ha
  have HA := hid ha
  have HCL := hid (fun W g => Clone_any b cb tape (by unfold Len; omega) W g)
  have g1 : ¬ (128 : Int) < (store.length : Int) := by omega
  have g2 : ¬ (200 : Int) < (tape.length : Int) := by omega
  have M0 := hid trivial
  clear hs ht ha hx hy h3 h4
  go_enter Try.func28, Try.ntmps28
  go_wp2_with (first
    | (have m := M0; go_at_call 52; refine (HS.out _ _ _ (HX.out.below (b_alloc (Below.refl _ _) _))).mono ?_; rintro e w1 ⟨rfl, hb1⟩; have HB1 := hid (b_call hb1 (b_alloc (Below.refl _ _) _)); have B1 := hid (B0.out.call hb1); clear hb1 m M0; have M1 := hid trivial)
    | (have m := M1; go_at_call 52; refine (HT.out _ _ _ (HY.out.below HB1.out)).mono ?_; rintro e w2 ⟨rfl, hb2⟩; have HB2 := hid (b_call hb2 HB1.out); have B2 := hid (B1.out.call hb2); clear hb2 m M1)
    | (go_at_call 57; refine (HA.out _).mono ?_; rintro e w3 ⟨rfl, hb3⟩; have HB3 := hid (b_call hb3 HB2.out); have B3 := hid (B2.out.call hb3); clear hb3))
  go_cut [8] (fun c8 wx => ∃ (b8 g : Nat) (a2 : Option Addr) (c2 : Nat), c8 = .pointer (some ⟨b8, 0, none⟩) ∧ Blk wx b8 37 #[.slice (some ⟨g, 0, none⟩) 128 128, .slice a2 tape.length c2, .int .i64 0, .slice none 0 0, .int .i64 (start % 16), .int .i64 start, .int .i64 0, .int .i64 0] ∧
    Blk wx g 3 (Array.replicate 128 (.int .i64 0)) ∧ wx.ownsRow w3.heap.size 3 1 (.slice a2 tape.length c2) tape.length (tape.map (Value.int .i64)) ∧ (Value.slice a2 tape.length c2).ownBlock ≠ some g ∧ b8 ≠ g ∧ w3.heap.size ≤ g ∧ w3.heap.size ≤ b8 ∧ Below w3.heap.size w3 wx)
  case first =>
    have hy3 := HY.out.below HB3.out
    have HY3 := hid hy3
    have hst0 : nb 0 start = start % 16 := by unfold nb; omega
    have HST := hid hst0
    have hsA := fun (W : World) => storeOk8 (Blk.new W zeroCells 37) rfl
    have hsB := fun (W : World) (o : Obj) => storeOk8 (blkN2 W o zeroCells 37) rfl
    have hsC := fun (W : World) (o : Obj) => storeOk8 ((Blk.new W zeroCells 37).alloc o) rfl
    clear hy3 hst0
    go_region_held3 (fun _ => True) (trivial)
      (first
        | (go_at_call 59; refine (notBefore_any 0 start (by omega) (by omega) _).mono ?_; rintro e w' ⟨rfl, rfl⟩; rw [HST.out])
        | (go_at_call 58; refine (HCL.out _ (HY3.out.below (by (repeat (first | assumption | exact Below.refl _ _ | refine b_alloc ?_ _ | refine Below.drew ?_ | refine b_drewN ?_ _ | refine Below.setCell ?_ (by first | omega | (simp; done) | (simp; omega)) _ | refine b_call (by assumption) ?_))))).mono ?_; rintro e w4 ⟨v, rfl, hrow, hb4⟩; obtain ⟨a4, c4, rfl, _⟩ := rowInts rfl hrow; have HB4 := hid hb4; have HR4 := hid hrow;
            (try (with_reducible have xz := Blk.call (Blk.drew (Blk.new w3 zeroCells 37)) hb4; have hsD := storeOk8 xz rfl; have hsE := fun (o : Obj) => storeOk8 (xz.alloc o) rfl; have X8 := hid xz; clear xz));
            (try (with_reducible have xz := Blk.call (Blk.drew ((Blk.new w3 zeroCells 37).alloc (.cells (Array.replicate 128 (.int .i64 0)) 3))) hb4; have hsD := storeOk8 xz rfl; have X8 := hid xz; have XG := hid (Blk.call (Blk.drew (blkN2 w3 (.cells zeroCells 37) (Array.replicate 128 (.int .i64 0)) 3)) hb4); clear xz));
            (try (with_reducible have xz := Blk.call (Blk.drew (blkN2 w3 (.cells (Array.replicate 128 (.int .i64 0)) 3) zeroCells 37)) hb4; have hsD := storeOk8 xz rfl; have X8 := hid xz; have XG := hid (Blk.call (Blk.drew ((Blk.new w3 (Array.replicate 128 (.int .i64 0)) 3).alloc (.cells zeroCells 37))) hb4); clear xz));
            (try (with_reducible have XG := hid (Blk.call (Blk.drew (Blk.new w3 (Array.replicate 128 (.int .i64 0)) 3)) hb4)));
            clear hrow hb4))
    all_goals
      go_wp2
      go_meet
      have hz4 := HB4.out.size
      simp only [World.size_alloc, World.size_drew] at hz4
      have hlt4 : ∀ r, (Value.slice a4 tape.length c4).ownBlock = some r → w3.heap.size ≤ r ∧ r < w4.heap.size := fun r e => by have h9 := HR4.out.lt r e; simp only [World.size_alloc, World.size_drew] at h9; omega
      have hlow : w4.ownsRow w3.heap.size 3 1 (.slice a4 tape.length c4) tape.length (tape.map (Value.int .i64)) := ownsRow_low HR4.out (by simp only [World.size_alloc, World.size_drew]; omega)
      have hb34 : Below w3.heap.size w3 w4 := b_call HB4.out (by (repeat (first | assumption | exact Below.refl _ _ | refine b_alloc ?_ _ | refine Below.drew ?_ | refine b_drewN ?_ _ | refine Below.setCell ?_ (by first | omega | (simp; done) | (simp; omega)) _ | refine b_call (by assumption) ?_)))
      have hlt6 := HR4.out.lt
      simp only [World.size_alloc, World.size_drew] at hlt6
      clear hsA hsB hsC
      apply Exists.intro
      apply Exists.intro
      refine ⟨a4, c4, rfl, ?_, ?_, ?_, ?_, ?_, ?_, ?_, ?_⟩
      · first
          | with_reducible exact Blk.row (Blk.new _ _ _) _
          | with_reducible exact Blk.row (blkN2 _ _ _ _) _
          | with_reducible exact Blk.row (Blk.alloc (Blk.new _ _ _) _) _
          | with_reducible exact Blk.row X8.out _
          | with_reducible exact Blk.row (Blk.alloc X8.out _) _
      · first
          | with_reducible exact Blk.rowOther XG.out (by omega) _
          | with_reducible exact Blk.rowOther (Blk.alloc XG.out _) (by omega) _
          | with_reducible exact Blk.rowOther (Blk.new _ _ _) (by omega) _
          | with_reducible exact Blk.rowOther (Blk.alloc (Blk.new _ _ _) _) (by omega) _
          | with_reducible exact Blk.rowOther (blkN2 _ _ _ _) (by omega) _
      · first
          | with_reducible exact hlow.kept (grown_row _ _ _) (.inr (fun e => by have h9 := hlt6 _ e; omega))
          | with_reducible exact (hlow.alloc _).kept (grown_row _ _ _) (.inr (fun e => by have h9 := hlt6 _ e; omega))
          | with_reducible exact ((hlow.alloc _).alloc _).kept (grown_row _ _ _) (.inr (fun e => by have h9 := hlt6 _ e; omega))
      · intro e
        have h9 := hlt6 _ e
        omega
      · omega
      · omega
      · omega
      · first
          | with_reducible exact below_setRow hb34 (by omega) _
          | with_reducible exact below_setRow (b_alloc hb34 _) (by omega) _
          | with_reducible exact below_setRow (b_alloc (b_alloc hb34 _) _) (by omega) _
  case rest =>
    obtain ⟨b8, g, a2, c2, rfl, hb8, hbg, hown, hne, hn8, hg3, h83, hbc⟩ := hcut
    have B6 := hid (B3.out.call hbc)
    have HBC := hid (b_call hbc HB3.out)
    have HX6 := hid (HX.out.below HBC.out)
    have l6 := (Array.getElem?_eq_some_iff.1 B3.out).1
    have hlg := (Array.getElem?_eq_some_iff.1 hbg).1
    have hl8 := (Array.getElem?_eq_some_iff.1 hb8).1
    have HB8 := hid hb8
    have HG := hid hbg
    have HOW := hid hown
    have HNE := hid hne
    obtain ⟨⟨e0, e1, e2, e3⟩, e4, e5, e6, e7⟩ := stBlk hb8
    have hsz : (Try.prog.info? 3).map (·.size) = some 1 := by kernel_rfl
    have hz3 := HB3.out.size
    have hzc := hbc.size
    have hq2 : ∀ W : World, W.ownsRow w3.heap.size 3 1 (.slice a2 tape.length c2) tape.length (tape.map (Value.int .i64)) → IntsAt W a2 tape := fun W h => rowsAt rfl h
    clear hb8 hbg hown hne hbc
    by_cases hem : store.length = 0
    · have he : store = [] := List.eq_nil_of_length_eq_zero hem
      subst he
      have hst := storeOk8 B6.out rfl
      go_wp2_with (refine wpList_copy_nothing rfl (.tmp 40) (.tmp 41) 35 35 rfl 3 Try.underlying35 hsz (some ⟨g, 0, none⟩) a 128 128 0 ca rfl rfl (by simp) ?_)
      have x8 := B6.out.row #[.slice (some ⟨g, 0, none⟩) 128 128, .slice a2 tape.length c2, .int .i64 0, .slice none 0 0, .int .i64 (start % 16), .int .i64 start, .int .i64 0, .int .i64 0]
      obtain ⟨⟨z0, z1, z2, z3⟩, z4, z5, z6, z7⟩ := stBlk x8
      have hx1 : IntsAt wc (some ⟨g, 0, none⟩) (List.replicate 128 0) := zeros_at HG.out
      have hs8 : StAt (World.setRow wc w.heap.size #[.slice (some ⟨g, 0, none⟩) 128 128, .slice a2 tape.length c2, .int .i64 0, .slice none 0 0, .int .i64 (start % 16), .int .i64 start, .int .i64 0, .int .i64 0]) ⟨some ⟨g, 0, none⟩, a2, none, 128, c2, 0⟩ (begSt [] tape start) := by
        have h0 : StAt wc ⟨some ⟨g, 0, none⟩, a2, none, 128, c2, 0⟩ (begSt [] tape start) := ⟨by simpa [begSt] using hx1, hq2 _ HOW.out, fun j hj => by simp [begSt] at hj⟩
        refine h0.grown (grown_row _ _ _) (fun e => by injection e with e; simp only at e; omega) (fun e => ?_) (fun e => by cases e)
        have := HOW.out.lt _ (by rw [own_slice]; exact e)
        omega
      have hb8 := below_setRow HBC.out (Nat.le_refl w.heap.size) #[.slice (some ⟨g, 0, none⟩) 128 128, .slice a2 tape.length c2, .int .i64 0, .slice none 0 0, .int .i64 (start % 16), .int .i64 start, .int .i64 0, .int .i64 0]
      generalize World.setRow wc w.heap.size #[.slice (some ⟨g, 0, none⟩) 128 128, .slice a2 tape.length c2, .int .i64 0, .slice none 0 0, .int .i64 (start % 16), .int .i64 start, .int .i64 0, .int .i64 0] = WF at *
      refine ⟨rfl, .tuple #[stVal ⟨some ⟨g, 0, none⟩, a2, none, 128, c2, 0⟩ (begSt [] tape start), .int .i64 0], ?_, ⟨some ⟨g, 0, none⟩, a2, none, 128, c2, 0⟩, rfl, hs8, hb8⟩
      simp [results, Try.f28, go_sem, z0, z1, z2, z3, z4, z5, z6, z7, begSt]
    · obtain ⟨bs, os, rfl, _⟩ := HX6.out 0 (by omega)
      have hlen1 : (store.map (Value.int .i64)).length = Nat.min store.length 128 := by rw [List.length_map]; exact (Nat.min_eq_left h1).symm
      obtain ⟨X, hX⟩ : ∃ X, ((Array.replicate 128 (Value.int .i64 0)).toList.take 0 ++ (store.map (Value.int .i64) ++ (Array.replicate 128 (Value.int .i64 0)).toList.drop (0 + (store.map (Value.int .i64)).length))).toArray = X := ⟨_, rfl⟩
      have HXX := hid hX
      clear hX
      go_wp2_with (refine wpList_copy_hid rfl (.tmp 40) (.tmp 41) 35 35 rfl 3 Try.underlying35 hsz g 0 128 128 ⟨bs, os, none⟩ store.length ca rfl rfl (Array.replicate 128 (.int .i64 0)) 3 HG.out (store.map (Value.int .i64)) hlen1 ?src (by rw [List.length_map, Array.size_replicate]; omega) (fun v hv => by obtain ⟨x, _, rfl⟩ := List.mem_map.1 hv; rfl) X HXX.out ?_)
      case src =>
        intro j v hj
        have hjl : j < store.length := by have := (List.getElem?_eq_some_iff.1 hj).1; simpa using this
        obtain ⟨b', o', e, hc⟩ := HX6.out j hjl
        cases e
        rw [Addr.add_lit, hc, ← hj]
        simp [hjl]
      intro w5 hw5
      have hgr : wc.grownBy w5 (some g) := by rw [hw5.out]; exact grown_row _ _ _
      have hbg5 : Blk w5 g 3 ((Array.replicate 128 (Value.int .i64 0)).toList.take 0 ++ (store.map (Value.int .i64) ++ (Array.replicate 128 (Value.int .i64 0)).toList.drop (0 + (store.map (Value.int .i64)).length))).toArray := by rw [hw5.out, HXX.out]; exact HG.out.row _
      have hx1 := copied_at h1 hbg5
      have h85 : Blk w5 b8 _ _ := (hgr.block b8 hl8 (fun e => hn8 (by injection e))).trans HB8.out
      have h65 := hid (show Blk w5 w.heap.size 37 zeroCells from (hgr.block w.heap.size (by omega) (fun e => by injection e; omega)).trans B6.out)
      have ho5 := HOW.out.kept hgr (.inr HNE.out)
      have hb5 : Below w.heap.size w w5 := HBC.out.grown hgr (by omega) (fun k e => by injection e; omega)
      have HX1 := hid hx1
      have HO5 := hid ho5
      have HB5 := hid hb5
      obtain ⟨⟨e0, e1, e2, e3⟩, e4, e5, e6, e7⟩ := stBlk h85
      have hst := storeOk8 h65.out rfl
      clear hw5 hgr hbg5 hx1 h85 ho5 hb5
      go_wp2
      have x8 := h65.out.row #[.slice (some ⟨g, 0, none⟩) 128 128, .slice a2 tape.length c2, .int .i64 0, .slice none 0 0, .int .i64 (start % 16), .int .i64 start, .int .i64 0, .int .i64 0]
      obtain ⟨⟨z0, z1, z2, z3⟩, z4, z5, z6, z7⟩ := stBlk x8
      have hln : (store ++ List.replicate (128 - store.length) (0 : Int)).length = 128 := by simp; omega
      have hs8 : StAt (World.setRow w5 w.heap.size #[.slice (some ⟨g, 0, none⟩) 128 128, .slice a2 tape.length c2, .int .i64 0, .slice none 0 0, .int .i64 (start % 16), .int .i64 start, .int .i64 0, .int .i64 0]) ⟨some ⟨g, 0, none⟩, a2, none, 128, c2, 0⟩ (begSt store tape start) := by
        have h0 : StAt w5 ⟨some ⟨g, 0, none⟩, a2, none, 128, c2, 0⟩ (begSt store tape start) := ⟨HX1.out, hq2 _ HO5.out, fun j hj => by simp [begSt] at hj⟩
        refine h0.grown (grown_row _ _ _) (fun e => by injection e with e; simp only at e; omega) (fun e => ?_) (fun e => by cases e)
        have := HO5.out.lt _ (by rw [own_slice]; exact e)
        omega
      have hb8 := below_setRow HB5.out (Nat.le_refl w.heap.size) #[.slice (some ⟨g, 0, none⟩) 128 128, .slice a2 tape.length c2, .int .i64 0, .slice none 0 0, .int .i64 (start % 16), .int .i64 start, .int .i64 0, .int .i64 0]
      generalize World.setRow w5 w.heap.size #[.slice (some ⟨g, 0, none⟩) 128 128, .slice a2 tape.length c2, .int .i64 0, .slice none 0 0, .int .i64 (start % 16), .int .i64 start, .int .i64 0, .int .i64 0] = WF at *
      have hv : stVal ⟨some ⟨g, 0, none⟩, a2, none, 128, c2, 0⟩ (begSt store tape start) = .agg #[.slice (some ⟨g, 0, none⟩) 128 128, .slice a2 tape.length c2, .int .i64 0, .slice none 0 0, .int .i64 (start % 16), .int .i64 start, .int .i64 0, .int .i64 0] := by
        simp only [stVal, stCells, begSt, hln]; rfl
      refine ⟨rfl, .tuple #[.agg #[.slice (some ⟨g, 0, none⟩) 128 128, .slice a2 tape.length c2, .int .i64 0, .slice none 0 0, .int .i64 (start % 16), .int .i64 start, .int .i64 0, .int .i64 0], .int .i64 0], ?_, ⟨some ⟨g, 0, none⟩, a2, none, 128, c2, 0⟩, by rw [hv], hs8, hb8⟩
      simp [results, Try.f28, go_sem, z0, z1, z2, z3, z4, z5, z6, z7]
end Go.Proofs.Ytbfhgcnfhjhgcaa
