/-
  do: what an order does, for all orders.
-/
import Derived.Test.YtbfhgcnfhjhgcaaDo
namespace Go.Proofs.Ytbfhgcnfhjhgcaa
open Go.RowKit
set_option linter.unusedVariables false
set_option linter.unusedSimpArgs false

set_option maxRecDepth 100000 in
set_option maxHeartbeats 4000000 in
theorem do_test (b g ca kf kt : Nat) (nx x : Int) (hkf : kf < 128) (w : World)
    (c0 : w.cell? ⟨b, 0, none⟩ = some (.slice (some ⟨g, 0, none⟩) 128 ca)) (cx : w.cell? ⟨g, kf, none⟩ = some (.int .i64 x)) :
    Calls Try.prog 73 #[.pointer (some ⟨b, 0, none⟩), .agg #[.int .i64 5, .int .i64 (kf : Int), .int .i64 (kt : Int), .int .i64 nx]] w
      (fun e w' => (∃ u, e = .returned u) ∧ Below w.heap.size w w') := by
  have hO := odAt_new w ⟨5, kf, kt, nx⟩
  have hb := b_alloc (Below.refl w.heap.size w) (odObj ⟨5, kf, kt, nx⟩)
  replace c0 := cell_later hb c0
  replace cx := cell_later hb cx
  have n0 : (0 : Int) ≤ (kf : Int) := by omega
  have n1 : (kf : Int) < 128 := by omega
  obtain ⟨d0, d1, d2, d3⟩ := hO
  go_enter Try.func73, Try.ntmps73
  go_wp2
  go_quiet (fail)
  go_wp2
  first | go_end0 | refine bodyPost_ret (results_none rfl _ _ _) rfl ?_
  exact ⟨⟨_, rfl⟩, by (repeat (first | assumption | exact Below.refl _ _ | refine b_alloc ?_ _ | refine Below.drew ?_ | refine b_drewN ?_ _ | refine Below.setCell ?_ (by first | omega | (simp; done) | (simp; omega)) _ | refine b_call (by assumption) ?_))⟩
set_option maxRecDepth 100000 in
set_option maxHeartbeats 4000000 in
theorem do_read (b g ca kf kt k gt ct tl : Nat) (nx x y z : Int) (hkf : kf < 128) (hkt : kt < 128) (hk : k < tl) (htl : tl ≤ 200) (hne : b ≠ g) (hz : 0 ≤ z ∧ z ≤ 16777215) (w : World)
    (c0 : w.cell? ⟨b, 0, none⟩ = some (.slice (some ⟨g, 0, none⟩) 128 ca)) (cx : w.cell? ⟨g, kf, none⟩ = some (.int .i64 x)) (cy : w.cell? ⟨g, kt, none⟩ = some (.int .i64 y)) (fy : w.frozen? ⟨g, kt, none⟩ = false)
    (c1 : w.cell? ⟨b, 1, none⟩ = some (.slice (some ⟨gt, 0, none⟩) tl ct)) (c2 : w.cell? ⟨b, 2, none⟩ = some (.int .i64 (k : Int))) (f2 : w.frozen? ⟨b, 2, none⟩ = false) (cg : w.cell? ⟨gt, k, none⟩ = some (.int .i64 z)) :
    Calls Try.prog 73 #[.pointer (some ⟨b, 0, none⟩), .agg #[.int .i64 6, .int .i64 (kf : Int), .int .i64 (kt : Int), .int .i64 nx]] w
      (fun e w' => (∃ u, e = .returned u) ∧ ∃ W1 W2, Below w.heap.size w W1 ∧ Below (W1.setCell ⟨b, 2, none⟩ (.int .i64 ((k : Int) + 1))).heap.size (W1.setCell ⟨b, 2, none⟩ (.int .i64 ((k : Int) + 1))) W2 ∧ w' = W2.setCell ⟨g, kt, none⟩ (.int .i64 z)) := by
  have hO := odAt_new w ⟨6, kf, kt, nx⟩
  have HC := hid (And.intro c0 (show Cel w g kt _ from ⟨cy, fy⟩))
  have HT := hid (fun W (hb : Below w.heap.size w W) => take_raw b gt ct tl k z hk htl W (cell_later hb c1) ((show Cel w b 2 _ from ⟨c2, f2⟩).call hb).1 ((show Cel w b 2 _ from ⟨c2, f2⟩).call hb).2 (cell_later hb cg))
  have hzm : z % 16777216 = z := by omega
  have HW := hid (fun W (h0 : W.cell? ⟨b, 0, none⟩ = some (.slice (some ⟨g, 0, none⟩) 128 ca)) (h1 : Cel W g kt (.int .i64 y)) => write_raw b g ca kt z y hkt hne W h0 h1.1 h1.2)
  rw [hzm] at HW
  have hb := b_alloc (Below.refl w.heap.size w) (odObj ⟨6, kf, kt, nx⟩)
  have HOD := hid hO
  have lb : b ≠ w.heap.size := Nat.ne_of_lt (World.block_lt_of_cell? _ ⟨b, 0, none⟩ c0)
  replace c0 := cell_later hb c0
  replace cx := cell_later hb cx
  have n0 : (0 : Int) ≤ (kf : Int) := by omega
  have n1 : (kf : Int) < 128 := by omega
  obtain ⟨d0, d1, d2, d3⟩ := hO
  have NE := hid hne
  clear hb cy fy c1 c2 f2 cg hzm hne
  have M0 := hid trivial
  go_enter Try.func73, Try.ntmps73
  go_wp2
  go_quiet (fail)
  go_wp2_with (first
    | (have m := M0; go_at_call 79; refine ((HT.out _ (b_drewN (b_alloc (Below.refl _ _) _) _)).mono ?_); rintro e w1 ⟨rfl, W1, hb1, rfl⟩; have HB1 := hid (b_call hb1 (b_drewN (b_alloc (Below.refl w.heap.size w) _) _)); have HOW := hid (odAt_call (odAt_call HOD.out (b_drewN (Below.refl _ _) _)) hb1); have e0 := setc (k := 2) (u := .int .i64 ((k : Int) + 1)) (Ne.symm lb) HOW.out.1; have e1 := setc (k := 2) (u := .int .i64 ((k : Int) + 1)) (Ne.symm lb) HOW.out.2.1; have e2 := setc (k := 2) (u := .int .i64 ((k : Int) + 1)) (Ne.symm lb) HOW.out.2.2.1; clear hb1 m M0)
    | (go_at_call 80; refine ((HW.out _ ((World.cell?_setCell_other W1 ⟨b, 2, none⟩ ⟨b, 0, none⟩ _ (by simp)).trans (cell_later HB1.out HC.out.1)) ((HC.out.2.call HB1.out).grown (grown_setc _ _ _ _) (fun r e => by cases e; exact Ne.symm NE.out))).mono ?_); rintro e w2 ⟨⟨u, rfl⟩, W2, hb2, rfl⟩; have HB2 := hid hb2; clear hb2))
  go_end0
  exact ⟨⟨_, rfl⟩, W1, W2, HB1.out, HB2.out, rfl⟩
set_option maxRecDepth 100000 in
set_option maxHeartbeats 4000000 in
theorem do_print (b g base ca kf kt c : Nat) (a : Option Addr) (xs : List Int) (nx x : Int) (hkf : kf < 128) (hl : xs.length ≤ 200) (w : World)
    (c0 : w.cell? ⟨b, 0, none⟩ = some (.slice (some ⟨g, 0, none⟩) 128 ca)) (cx : w.cell? ⟨g, kf, none⟩ = some (.int .i64 x)) (c3 : w.cell? ⟨b, 3, none⟩ = some (.slice a xs.length c)) (f3 : w.frozen? ⟨b, 3, none⟩ = false) (hown : w.ownsRow base 3 1 (.slice a xs.length c) xs.length (xs.map (Value.int .i64))) (hbs : base ≤ w.heap.size) (hne : blkOf a ≠ some b) (hbl : b < w.heap.size) :
    Calls Try.prog 73 #[.pointer (some ⟨b, 0, none⟩), .agg #[.int .i64 7, .int .i64 (kf : Int), .int .i64 (kt : Int), .int .i64 nx]] w
      (fun e w' => ∃ W0, Below w.heap.size w W0 ∧ Prnt W0 base b a (xs ++ [x]) e w') := by
  have hO := odAt_new w ⟨7, kf, kt, nx⟩
  have HP := hid (fun W (hb : Below w.heap.size w W) => print_raw b base c a (kt : Int) x xs hl W ((show Cel w b 3 _ from ⟨c3, f3⟩).call hb).1 ((show Cel w b 3 _ from ⟨c3, f3⟩).call hb).2 (ownsRow_below hb hown) (by have := hb.size; omega) hne (by have := hb.size; omega))
  have hb := b_alloc (Below.refl w.heap.size w) (odObj ⟨7, kf, kt, nx⟩)
  replace c0 := cell_later hb c0
  replace cx := cell_later hb cx
  have n0 : (0 : Int) ≤ (kf : Int) := by omega
  have n1 : (kf : Int) < 128 := by omega
  obtain ⟨d0, d1, d2, d3⟩ := hO
  clear hb c3 f3 hown hne hbl hbs
  go_enter Try.func73, Try.ntmps73
  go_wp2
  go_quiet (fail)
  go_wp2_with (go_at_call 83; refine ((HP.out _ (b_drewN (b_alloc (Below.refl _ _) _) _)).mono ?_); rintro e w1 ⟨⟨u, rfl⟩, hp⟩; have HQ := hid hp; clear hp)
  go_end0
  exact ⟨_, b_drewN (b_alloc (Below.refl _ _) _) _, ⟨_, rfl⟩, HQ.out⟩
theorem grownTrans {A B C : World} {r : Option Nat} (h : Below A.heap.size A B) (k : B.grownBy C r) : A.grownBy C r :=
  ⟨k.os.trans h.os, k.tape.trans h.tape, k.output.trans h.output, Nat.le_trans h.size k.size, fun i hi hne => (k.block i (by have := h.size; omega) hne).trans (h.block i hi)⟩
theorem do_any {base b g : Nat} {q : Sl} {s : St} (hs : SOk s) (he : s.ends = 0) {w : World} (hm : Mac w base b g q s) :
    Calls Try.prog 73 #[.pointer (some ⟨b, 0, none⟩), s.od.val] w (Done w base b g q (s.deed s.od)) := by
  obtain ⟨e1, e2, e3, e4, e5⟩ := ends_zero he
  have l := hs.len.1
  have ll := hs.len.2
  have ho := hs.od
  have gf := hs.get (i := s.od.fr) ho.2.1
  have gt := hs.get (i := s.od.to) ho.2.2.1
  have cx := hm.cell (i := s.od.fr) ho.2.1.1 (by have := ho.2.1; omega)
  have cy := hm.cell (i := s.od.to) ho.2.2.1.1 (by have := ho.2.2.1; omega)
  have fy := hm.frz s.od.to.toNat
  have c0 := hm.blk.cell 0 _ rfl
  simp only [List.getElem_toArray, List.getElem_cons_succ, List.getElem_cons_zero] at c0
  rw [hm.qa, l] at c0
  obtain ⟨o, hod⟩ : ∃ o, s.od = o := ⟨_, rfl⟩
  rw [hod] at e2 e3 e4 ho gf gt cx cy fy ⊢
  obtain ⟨op, fr, tt, nx⟩ := o
  obtain ⟨h1, h2, h3, h4⟩ := ho
  simp only at h1 h2 h3 h4 cx cy fy gf gt e2 e3 e4
  obtain ⟨kf, rfl⟩ : ∃ kf : Nat, fr = (kf : Int) := ⟨fr.toNat, by omega⟩
  obtain ⟨kt, rfl⟩ : ∃ kt : Nat, tt = (kt : Int) := ⟨tt.toNat, by omega⟩
  simp only [Int.toNat_natCast] at cx cy fy
  by_cases ow : op = 1 ∨ op = 2 ∨ op = 3 ∨ op = 4
  · refine (do_write op ow b g q.ca kf kt nx _ _ (by omega) (by omega) hm.bg gf gt w c0 cx cy fy).mono ?_
    rintro e w' ⟨hu, W1, hb1, rfl⟩
    refine ⟨hu, ?_⟩
    have := done_wrote (i := (kt : Int)) (v := if op = 1 then getI s.store kf else if op = 2 then (getI s.store kt + getI s.store kf) % 16777216 else if op = 3 then (getI s.store kt - getI s.store kf) % 16777216 else prodOf (getI s.store kt) (getI s.store kf)) hm (k := kt) (by simp) hb1
    have hd : s.deed ⟨op, kf, kt, nx⟩ = { s with store := setI s.store kt (if op = 1 then getI s.store kf else if op = 2 then (getI s.store kt + getI s.store kf) % 16777216 else if op = 3 then (getI s.store kt - getI s.store kf) % 16777216 else prodOf (getI s.store kt) (getI s.store kf)) } := by
      unfold St.deed
      rcases ow with rfl | rfl | rfl | rfl <;> simp
    rw [hd]
    exact this
  · by_cases o5 : op = 5
    · subst o5
      refine (do_test b g q.ca kf kt nx _ (by omega) w c0 cx).mono ?_
      rintro e w' ⟨hu, hb⟩
      exact ⟨hu, q, by rw [show s.deed ⟨5, kf, kt, nx⟩ = s by simp [St.deed]]; exact hm.below hb, Mv.below hb hm.base_le⟩
    · by_cases o6 : op = 6
      · subst o6
        obtain ⟨n1, n2⟩ := hs.num.1
        have hlt : s.taken < s.tape.length := by
          have : ¬ s.taken = (s.tape.length : Int) := fun e => e3 ⟨rfl, e⟩
          omega
        obtain ⟨k, hk⟩ : ∃ k : Nat, s.taken = (k : Int) := ⟨s.taken.toNat, by omega⟩
        have c1 := hm.blk.cell 1 _ rfl
        have c2 := hm.blk.cell 2 _ rfl
        have f2 := hm.blk.frozen 2
        simp only [List.getElem_toArray, List.getElem_cons_succ, List.getElem_cons_zero] at c1 c2
        have ht := hm.tap
        have hqb : ∃ gt, q.b = some ⟨gt, 0, none⟩ := by
          rcases ht.2 with ⟨e, e2⟩ | ⟨gg, cap, cur, e, r⟩
          · omega
          · simp at e; exact ⟨gg, e.1⟩
        obtain ⟨gt', hqb⟩ := hqb
        rw [hqb] at ht c1
        have cg := ht.cellAt k (by omega)
        have cg2 : w.cell? ⟨gt', k, none⟩ = some (.int .i64 (getI s.tape s.taken)) := by
          rw [cg, getI, List.getElem?_map, hk]
          have : k < s.tape.length := by omega
          simp [this]
        have gz := okAll_get hs.w1 n1 hlt
        rw [hk] at c2
        refine (do_read b g q.ca kf kt k gt' q.cb s.tape.length nx _ _ _ (by omega) (by omega) (by omega) ll.1 hm.bg gz w c0 cx cy fy c1 c2 f2 cg2).mono ?_
        rintro e w' ⟨hu, W1, W2, hb1, hb2, rfl⟩
        refine ⟨hu, q, ?_, ?_⟩
        · have m1 := (hm.below hb1).setb 2 (.int .i64 ((k : Int) + 1)) { s with taken := s.taken + 1 } (by rw [← hk]; rfl) rfl rfl rfl
          have m2 := (m1.below hb2).setg kt (kt : Int) (getI s.tape s.taken) (by simp)
          rw [show s.deed ⟨6, kf, kt, nx⟩ = { s with store := setI s.store kt (getI s.tape s.taken), taken := s.taken + 1 } by simp [St.deed]]
          exact m2
        · exact ((Mv.below hb1 hm.base_le).trans (Mv.setb hm.hb 2 _)).trans ((Mv.below hb2 (by have := hb1.size; have := hm.base_le; simp; omega)).trans (Mv.setg hm.glt.1 _ _))
      · have o7 : op = 7 := by omega
        subst o7
        have hne : ¬ s.printed.length = 200 := fun e => e4 ⟨rfl, e⟩
        have c3 := hm.blk.cell 3 _ rfl
        have f3 := hm.blk.frozen 3
        simp only [List.getElem_toArray, List.getElem_cons_succ, List.getElem_cons_zero] at c3
        refine (do_print b g base q.ca kf kt q.cc q.c s.printed nx _ (by omega) (by omega) w c0 cx c3 f3 hm.prn hm.base_le hm.pb hm.blt).mono ?_
        rintro e w' ⟨W0, hb0, hu, a', c', W1, rfl, hown, hg, hn⟩
        have hx := (hm.below hb0).setp a' c' _ hown hg hn
        refine ⟨hu, _, ?_, (Mv.below hb0 hm.base_le).trans hx.2⟩
        rw [show s.deed ⟨7, kf, kt, nx⟩ = { s with printed := s.printed ++ [getI s.store kf] } by simp [St.deed]]
        exact hx.1
end Go.Proofs.Ytbfhgcnfhjhgcaa
