/-
  next: the order that is taken now.
-/
import Derived.Test.YtbfhgcnfhjhgcaaMac
namespace Go.Proofs.Ytbfhgcnfhjhgcaa
open Go.RowKit
set_option linter.unusedVariables false
set_option linter.unusedSimpArgs false
attribute [local go_sem ↓] oper_store

theorem nsKeep {W : World} {b g kf ca st : Nat} {tm y op tt nx : Int} (hb : b ≠ st) (hg : g ≠ st) (v : Value)
    (h : W.cell? ⟨b, 0, none⟩ = some (.slice (some ⟨g, 0, none⟩) 128 ca) ∧ W.cell? ⟨b, 4, none⟩ = some (.int .i64 tm) ∧ W.cell? ⟨g, kf, none⟩ = some (.int .i64 y) ∧ W.cell? ⟨st, 1, none⟩ = some (.int .i64 op) ∧ W.cell? ⟨st, 2, none⟩ = some (.int .i64 (kf : Int)) ∧ W.cell? ⟨st, 3, none⟩ = some (.int .i64 tt) ∧ W.cell? ⟨st, 4, none⟩ = some (.int .i64 nx)) :
    (W.setCell ⟨st, 6, none⟩ v).cell? ⟨b, 0, none⟩ = some (.slice (some ⟨g, 0, none⟩) 128 ca) ∧ (W.setCell ⟨st, 6, none⟩ v).cell? ⟨b, 4, none⟩ = some (.int .i64 tm) ∧ (W.setCell ⟨st, 6, none⟩ v).cell? ⟨g, kf, none⟩ = some (.int .i64 y) ∧ (W.setCell ⟨st, 6, none⟩ v).cell? ⟨st, 1, none⟩ = some (.int .i64 op) ∧ (W.setCell ⟨st, 6, none⟩ v).cell? ⟨st, 2, none⟩ = some (.int .i64 (kf : Int)) ∧ (W.setCell ⟨st, 6, none⟩ v).cell? ⟨st, 3, none⟩ = some (.int .i64 tt) ∧ (W.setCell ⟨st, 6, none⟩ v).cell? ⟨st, 4, none⟩ = some (.int .i64 nx) := by
  obtain ⟨h1, h2, h3, h4, h5, h6, h7⟩ := h
  exact ⟨(World.cell?_setCell_other W ⟨st, 6, none⟩ ⟨b, 0, none⟩ v (by simp [Ne.symm hb])).trans h1, (World.cell?_setCell_other W ⟨st, 6, none⟩ ⟨b, 4, none⟩ v (by simp [Ne.symm hb])).trans h2, (World.cell?_setCell_other W ⟨st, 6, none⟩ ⟨g, kf, none⟩ v (by simp [Ne.symm hg])).trans h3,
    (World.cell?_setCell_other W ⟨st, 6, none⟩ ⟨st, 1, none⟩ v (by simp)).trans h4, (World.cell?_setCell_other W ⟨st, 6, none⟩ ⟨st, 2, none⟩ v (by simp)).trans h5, (World.cell?_setCell_other W ⟨st, 6, none⟩ ⟨st, 3, none⟩ v (by simp)).trans h6, (World.cell?_setCell_other W ⟨st, 6, none⟩ ⟨st, 4, none⟩ v (by simp)).trans h7⟩
theorem nsBelow {W W' : World} {b g kf ca st : Nat} {tm y op tt nx : Int} (hb : Below W.heap.size W W')
    (h : W.cell? ⟨b, 0, none⟩ = some (.slice (some ⟨g, 0, none⟩) 128 ca) ∧ W.cell? ⟨b, 4, none⟩ = some (.int .i64 tm) ∧ W.cell? ⟨g, kf, none⟩ = some (.int .i64 y) ∧ W.cell? ⟨st, 1, none⟩ = some (.int .i64 op) ∧ W.cell? ⟨st, 2, none⟩ = some (.int .i64 (kf : Int)) ∧ W.cell? ⟨st, 3, none⟩ = some (.int .i64 tt) ∧ W.cell? ⟨st, 4, none⟩ = some (.int .i64 nx)) :
    W'.cell? ⟨b, 0, none⟩ = some (.slice (some ⟨g, 0, none⟩) 128 ca) ∧ W'.cell? ⟨b, 4, none⟩ = some (.int .i64 tm) ∧ W'.cell? ⟨g, kf, none⟩ = some (.int .i64 y) ∧ W'.cell? ⟨st, 1, none⟩ = some (.int .i64 op) ∧ W'.cell? ⟨st, 2, none⟩ = some (.int .i64 (kf : Int)) ∧ W'.cell? ⟨st, 3, none⟩ = some (.int .i64 tt) ∧ W'.cell? ⟨st, 4, none⟩ = some (.int .i64 nx) := by
  obtain ⟨h1, h2, h3, h4, h5, h6, h7⟩ := h
  exact ⟨cell_later hb h1, cell_later hb h2, cell_later hb h3, cell_later hb h4, cell_later hb h5, cell_later hb h6, cell_later hb h7⟩

set_option maxRecDepth 100000 in
set_option maxHeartbeats 4000000 in
theorem next_raw (b g ca ka kf : Nat) (x y tm : Int) (o : Od) (z : Int × Int) (hka : ka < 128) (hkf : kf < 128) (ho : o = dec x) (hof : o.fr = (kf : Int)) (hok : o.Ok) (htm : 0 ≤ tm ∧ tm ≤ 1000000000) (hy : 0 ≤ y ∧ y ≤ 16777215)
    (hz : z = folOf o tm (decide (sgn y < 0))) (w : World)
    (c0 : w.cell? ⟨b, 0, none⟩ = some (.slice (some ⟨g, 0, none⟩) 128 ca)) (c4 : w.cell? ⟨b, 4, none⟩ = some (.int .i64 tm)) (c5 : w.cell? ⟨b, 5, none⟩ = some (.int .i64 (ka : Int)))
    (cx : w.cell? ⟨g, ka, none⟩ = some (.int .i64 x)) (cy : w.cell? ⟨g, kf, none⟩ = some (.int .i64 y)) :
    Calls Try.prog 71 #[.pointer (some ⟨b, 0, none⟩)] w (Ret w (.tuple #[.agg (spCells ka o tm z.2), .int .i64 z.1])) := by
  have B0 := hid (Blk.new w z7 57)
  have HD := hid (fun W => orderOf_any x W)
  rw [← ho] at HD
  have HF := hid (fun W => following_any o hok tm (by omega) (decide (sgn y < 0)) W)
  rw [← hz] at HF
  have HC := hid (show (w.cell? ⟨b, 0, none⟩ = some (.slice (some ⟨g, 0, none⟩) 128 ca) ∧ w.cell? ⟨b, 4, none⟩ = some (.int .i64 tm) ∧ w.cell? ⟨b, 5, none⟩ = some (.int .i64 (ka : Int)) ∧ w.cell? ⟨g, ka, none⟩ = some (.int .i64 x)) ∧ w.cell? ⟨g, kf, none⟩ = some (.int .i64 y) from ⟨⟨c0, c4, c5, cx⟩, cy⟩)
  have HOF := hid hof
  have k0 : (0 : Int) ≤ (ka : Int) := by omega
  have k1 : (ka : Int) < 128 := by omega
  clear hz ho c0 c4 c5 cx cy hok hof
  go_enter Try.func71, Try.ntmps71
  go_wp2
  have hb1 := b_alloc (Below.refl w.heap.size w) (.cells z7 57)
  have HB1 := hid hb1
  have B1 := hid B0.out
  have hlt := b_alloc (Below.refl w.heap.size w) (.cells z7 57)
  generalize w.alloc (.cells z7 57) = W1 at *
  obtain ⟨⟨c0, c4, c5, cx⟩, cy⟩ := HC.out
  replace c0 := cell_later HB1.out c0
  replace c4 := cell_later HB1.out c4
  replace c5 := cell_later HB1.out c5
  replace cx := cell_later HB1.out cx
  have HS := hid (And.intro c0 (And.intro c4 (And.intro c5 cx)))
  clear hb1 hlt cy
  go_cut [2] (fun c2 wx => c2 = .pointer (some ⟨w.heap.size, 0, none⟩) ∧ Blk wx w.heap.size 57 (spCells ka o tm 0) ∧ Below w.heap.size w wx)
  case first =>
    go_region_held3 (fun w' => w'.cell? ⟨b, 0, none⟩ = some (.slice (some ⟨g, 0, none⟩) 128 ca) ∧ w'.cell? ⟨b, 4, none⟩ = some (.int .i64 tm) ∧ w'.cell? ⟨b, 5, none⟩ = some (.int .i64 (ka : Int)) ∧ w'.cell? ⟨g, ka, none⟩ = some (.int .i64 x))
      ((obtain ⟨⟨e0, e1, e2, e3⟩, _⟩ := HC.out; have hq1 := HB1.out; (try have hq2 := HBW.out); exact ⟨cell_later (show Below w.heap.size w _ from by (repeat (first | assumption | exact Below.refl _ _ | refine b_alloc ?_ _ | refine Below.drew ?_ | refine b_drewN ?_ _ | refine below_setRow ?_ (by first | omega | (simp; done) | (simp; omega)) _ | refine Below.setCell ?_ (by first | omega | (simp; done) | (simp; omega)) _ | refine b_call (by assumption) ?_))) e0, cell_later (show Below w.heap.size w _ from by (repeat (first | assumption | exact Below.refl _ _ | refine b_alloc ?_ _ | refine Below.drew ?_ | refine b_drewN ?_ _ | refine below_setRow ?_ (by first | omega | (simp; done) | (simp; omega)) _ | refine Below.setCell ?_ (by first | omega | (simp; done) | (simp; omega)) _ | refine b_call (by assumption) ?_))) e1, cell_later (show Below w.heap.size w _ from by (repeat (first | assumption | exact Below.refl _ _ | refine b_alloc ?_ _ | refine Below.drew ?_ | refine b_drewN ?_ _ | refine below_setRow ?_ (by first | omega | (simp; done) | (simp; omega)) _ | refine Below.setCell ?_ (by first | omega | (simp; done) | (simp; omega)) _ | refine b_call (by assumption) ?_))) e2, cell_later (show Below w.heap.size w _ from by (repeat (first | assumption | exact Below.refl _ _ | refine b_alloc ?_ _ | refine Below.drew ?_ | refine b_drewN ?_ _ | refine below_setRow ?_ (by first | omega | (simp; done) | (simp; omega)) _ | refine Below.setCell ?_ (by first | omega | (simp; done) | (simp; omega)) _ | refine b_call (by assumption) ?_))) e3⟩))
      (first | (go_at_call 44; refine (HD.out _).mono ?_; rintro e w2 ⟨rfl, hb2⟩; have HB2 := hid (b_call hb2 (show Below W1.heap.size W1 _ from by (repeat (first | assumption | exact Below.refl _ _ | refine b_alloc ?_ _ | refine Below.drew ?_ | refine b_drewN ?_ _ | refine Below.setCell ?_ (by first | omega | (simp; done) | (simp; omega)) _ | refine b_call (by assumption) ?_)))); have B2 := hid (B1.out.call HB2.out); have HBW := hid (b_call HB2.out HB1.out); have hst := storeOk7 B2.out rfl; clear hb2))
    all_goals
      go_wp2
      go_meet
      exact ⟨rfl, B2.out.row _, below_setRow HBW.out (Nat.le_refl _) _⟩
  case rest =>
    obtain ⟨rfl, g2, hb⟩ := hcut
    have HBC := hid hb
    have G2 := hid g2
    obtain ⟨⟨c0, c4, c5, cx⟩, cy⟩ := HC.out
    replace c0 := cell_later hb c0
    replace c4 := cell_later hb c4
    replace cy := cell_later hb cy
    have hof := HOF.out
    obtain ⟨op, fr, tt, nx⟩ := o
    simp only at hof
    subst hof
    obtain ⟨⟨s0, s1, s2, s3⟩, s4, s5, s6⟩ := spBlk g2
    have n0 : (0 : Int) ≤ (kf : Int) := by omega
    have n1 : (kf : Int) < 128 := by omega
    have HN := hid (And.intro c0 (And.intro c4 (And.intro cy (And.intro s1 (And.intro s2 (And.intro s3 s4))))))
    have lb : b ≠ w.heap.size := Nat.ne_of_lt (World.block_lt_of_cell? _ ⟨b, 0, none⟩ HC.out.1.1)
    have lg : g ≠ w.heap.size := Nat.ne_of_lt (World.block_lt_of_cell? _ ⟨g, kf, none⟩ HC.out.2)
    clear c5 cx hb g2 HS B1 HB1 B0 s0 s5 s6
    go_wp2
    go_region_held3 (fun w' => w'.cell? ⟨b, 0, none⟩ = some (.slice (some ⟨g, 0, none⟩) 128 ca) ∧ w'.cell? ⟨b, 4, none⟩ = some (.int .i64 tm) ∧ w'.cell? ⟨g, kf, none⟩ = some (.int .i64 y) ∧ w'.cell? ⟨w.heap.size, 1, none⟩ = some (.int .i64 op) ∧ w'.cell? ⟨w.heap.size, 2, none⟩ = some (.int .i64 (kf : Int)) ∧ w'.cell? ⟨w.heap.size, 3, none⟩ = some (.int .i64 tt) ∧ w'.cell? ⟨w.heap.size, 4, none⟩ = some (.int .i64 nx))
      (first | exact nsKeep lb lg _ (nsBelow HB3.out HN.out) | exact nsBelow HB3.out HN.out | exact nsBelow (show Below wc.heap.size wc _ from by (repeat (first | assumption | exact Below.refl _ _ | refine b_alloc ?_ _ | refine Below.drew ?_ | refine b_drewN ?_ _ | refine Below.setCell ?_ (by first | omega | (simp; done) | (simp; omega)) _ | refine b_call (by assumption) ?_))) HN.out)
      (first | (go_at_call 46; refine (signed_any y (by omega) _).mono ?_; rintro e w' ⟨rfl, rfl⟩) | (go_at_call 49; refine (HF.out _).mono ?_; rintro e w3 ⟨rfl, hb3⟩; have HB3 := hid (b_call hb3 (show Below wc.heap.size wc _ from by (repeat (first | assumption | exact Below.refl _ _ | refine b_alloc ?_ _ | refine Below.drew ?_ | refine b_drewN ?_ _ | refine Below.setCell ?_ (by first | omega | (simp; done) | (simp; omega)) _ | refine b_call (by assumption) ?_)))); have G3 := hid (G2.out.call HB3.out); obtain ⟨_, _, _, s6⟩ := spBlk G3.out; obtain ⟨_, _, _, f6⟩ := spFrz G3.out; clear hb3))
    all_goals
      go_wp2
      have x1 := G3.out.set 6 (.int .i64 z.2)
      have x2 : Blk _ w.heap.size 57 #[.int .i64 (ka : Int), .int .i64 op, .int .i64 (kf : Int), .int .i64 tt, .int .i64 nx, .int .i64 tm, .int .i64 z.2] := set7 (u0 := .int .i64 (ka : Int)) (u1 := .int .i64 op) (u2 := .int .i64 (kf : Int)) (u3 := .int .i64 tt) (u4 := .int .i64 nx) (u5 := .int .i64 tm) (u6 := .int .i64 z.2) x1 (.int .i64 (ka : Int)) (.int .i64 op) (.int .i64 (kf : Int)) (.int .i64 tt) (.int .i64 nx) (.int .i64 tm) (.int .i64 z.2)
      have xb := below_set7 ((b_call HB3.out HBC.out).setCell (p := ⟨w.heap.size, 6, none⟩) (Nat.le_refl _) (.int .i64 z.2)) (Nat.le_refl _) (.int .i64 (ka : Int)) (.int .i64 op) (.int .i64 (kf : Int)) (.int .i64 tt) (.int .i64 nx) (.int .i64 tm) (.int .i64 z.2)
      obtain ⟨⟨z0, z1, z2, z3⟩, z4, z5, z6⟩ := spBlk x2
      clear x1 x2
      generalize World.setCell (World.setCell (World.setCell (World.setCell (World.setCell (World.setCell (World.setCell (World.setCell w3 ⟨w.heap.size, 6, none⟩ _) ⟨w.heap.size, 0, none⟩ _) ⟨w.heap.size, 1, none⟩ _) ⟨w.heap.size, 2, none⟩ _) ⟨w.heap.size, 3, none⟩ _) ⟨w.heap.size, 4, none⟩ _) ⟨w.heap.size, 5, none⟩ _) ⟨w.heap.size, 6, none⟩ _ = WF at *
      refine ⟨rfl, .tuple #[.agg (spCells ka ⟨op, kf, tt, nx⟩ tm z.2), .int .i64 z.1], ?_, rfl, xb⟩
      simp [results, Try.f71, go_sem, z0, z1, z2, z3, z4, z5, z6]
theorem next_any {base b g : Nat} {q : Sl} {s : St} (hs : SOk s) {w : World} (hm : Mac w base b g q s) :
    Calls Try.prog 71 #[.pointer (some ⟨b, 0, none⟩)] w (Ret w (.tuple #[.agg (spCells s.at_ s.od s.time s.nxt.2), .int .i64 s.nxt.1])) := by
  have l := hs.len.1
  obtain ⟨_, n2, n3, _⟩ := hs.num
  have ho := hs.od
  obtain ⟨ka, hka⟩ : ∃ ka : Nat, s.at_ = (ka : Int) := ⟨s.at_.toNat, by omega⟩
  obtain ⟨kf, hkf⟩ : ∃ kf : Nat, s.od.fr = (kf : Int) := ⟨s.od.fr.toNat, by have := ho.2.1; omega⟩
  have c0 := hm.blk.cell 0 _ rfl
  have c4 := hm.blk.cell 4 _ rfl
  have c5 := hm.blk.cell 5 _ rfl
  have cx := hm.cell n3.1 (by omega)
  have cy := hm.cell (i := s.od.fr) ho.2.1.1 (by have := ho.2.1; omega)
  have hy := hs.get (i := s.od.fr) ho.2.1
  simp only [List.getElem_toArray, List.getElem_cons_succ, List.getElem_cons_zero] at c0 c4 c5
  rw [hm.qa, l] at c0
  have e1 : s.at_.toNat = ka := by omega
  have e2 : s.od.fr.toNat = kf := by omega
  rw [e1] at cx
  rw [e2] at cy
  have h := next_raw b g q.ca ka kf (getI s.store s.at_) (getI s.store s.od.fr) s.time s.od s.nxt (by omega) (by have := ho.2.1; omega) rfl hkf ho n2 hy rfl w c0 c4 (by rw [← hka]; exact c5) cx cy
  rw [← hka] at h
  exact h
end Go.Proofs.Ytbfhgcnfhjhgcaa
