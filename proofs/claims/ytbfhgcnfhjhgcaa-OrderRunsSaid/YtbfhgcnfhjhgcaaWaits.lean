/-
  waits: what an order waits for.
-/
import Derived.Deep.LoopGhost
import Derived.Deep.DeepCutAuto
import Derived.Test.YtbfhgcnfhjhgcaaRefCodes
namespace Go.Proofs.Ytbfhgcnfhjhgcaa
open Go.RowKit
set_option linter.unusedVariables false
set_option linter.unusedSimpArgs false

def waitsOf (o : Od) (neg : Bool) : List (Int × Int) :=
  if o.op = 6 then [(o.to, 0), (o.nx, 0)]
  else if o.op = 4 then [(o.fr, 0), (o.to, 0), (o.to, 12), (o.nx, 0)]
  else if o.op = 5 then (if neg then [(o.fr, 0), (o.to, 0)] else [(o.fr, 0), (o.nx, 0)])
  else if o.op = 7 then [(o.fr, 0), (o.nx, 0)]
  else [(o.fr, 0), (o.to, 0), (o.nx, 0)]
/-- Block b holds these pairs. -/
def PairsAt (W : World) (b : Nat) (ws : List (Int × Int)) : Prop := ∀ j, j < ws.length → W.cell? ⟨b, j * 2, none⟩ = some (.int .i64 (ws[j]?.getD (0, 0)).1) ∧ W.cell? ⟨b, j * 2 + 1, none⟩ = some (.int .i64 (ws[j]?.getD (0, 0)).2)
theorem PairsAt.below {W W' : World} {b : Nat} {ws : List (Int × Int)} (h : PairsAt W b ws) (hb : Below W.heap.size W W') : PairsAt W' b ws := fun j hj => ⟨cell_later hb (h j hj).1, cell_later hb (h j hj).2⟩
theorem waits_len (o : Od) (neg : Bool) : 1 ≤ (waitsOf o neg).length ∧ (waitsOf o neg).length ≤ 4 := by
  unfold waitsOf; split <;> (try split) <;> (try split) <;> (try split) <;> simp
def WaitRet (w : World) (ws : List (Int × Int)) (e : Ending) (w' : World) : Prop := ∃ b, e = .returned (.slice (some ⟨b, 0, none⟩) ws.length ws.length) ∧ PairsAt w' b ws ∧ Below w.heap.size w w' ∧ w.heap.size ≤ b
theorem pairs_new (W : World) (t : TypeId) : ∀ (ws : List (Int × Int)), PairsAt (W.alloc (.cells (ws.flatMap fun c => [Value.int .i64 c.1, .int .i64 c.2]).toArray t)) W.heap.size ws := by
  intro ws j hj
  have get : ∀ (ws : List (Int × Int)) (j : Nat) (hj : j < ws.length), (ws.flatMap fun c => [Value.int .i64 c.1, .int .i64 c.2])[j * 2]? = some (.int .i64 (ws[j]?.getD (0, 0)).1) ∧ (ws.flatMap fun c => [Value.int .i64 c.1, .int .i64 c.2])[j * 2 + 1]? = some (.int .i64 (ws[j]?.getD (0, 0)).2) := by
    intro ws
    induction ws with
    | nil => intro j hj; simp at hj
    | cons c cs ih =>
      intro j hj
      cases j with
      | zero => simp
      | succ j =>
        have := ih j (by simpa using hj)
        rw [show (j + 1) * 2 = j * 2 + 2 by omega, show j * 2 + 2 + 1 = (j * 2 + 1) + 2 by omega]
        simpa using this
  obtain ⟨h1, h2⟩ := get ws j hj
  exact ⟨(Cel.new W _ t (j * 2) _ (by simpa using h1)).1, (Cel.new W _ t (j * 2 + 1) _ (by simpa using h2)).1⟩

theorem pairs_new' (W W' : World) (t : TypeId) (cs : Array Value) (n : Nat) (ws : List (Int × Int)) (hn : n = W.heap.size) (hc : cs = (ws.flatMap fun c => [Value.int .i64 c.1, .int .i64 c.2]).toArray) (hW : W' = W.alloc (.cells cs t)) : PairsAt W' n ws := by
  subst hn hc hW; exact pairs_new W t ws
theorem waitRet_of {w : World} {o : Od} {neg : Bool} {ws : List (Int × Int)} {e : Ending} {w' : World} (h : waitsOf o neg = ws) (hr : WaitRet w ws e w') : WaitRet w (waitsOf o neg) e w' := by rw [h]; exact hr
theorem blk3a (W : World) (o1 o2 : Obj) (c : Array Value) (t : TypeId) : Blk (((W.alloc (.cells c t)).alloc o1).alloc o2) W.heap.size t c := ((Blk.new W c t).alloc o1).alloc o2
theorem blk3b (W : World) (o1 o2 : Obj) (c : Array Value) (t : TypeId) : Blk (((W.alloc o1).alloc (.cells c t)).alloc o2) (W.heap.size + 1) t c := by
  have := (Blk.new (W.alloc o1) c t).alloc o2
  rwa [World.size_alloc] at this
theorem blk3c (W : World) (o1 o2 : Obj) (c : Array Value) (t : TypeId) : Blk (((W.alloc o1).alloc o2).alloc (.cells c t)) (W.heap.size + 1 + 1) t c := by
  have := Blk.new ((W.alloc o1).alloc o2) c t
  rwa [World.size_alloc, World.size_alloc] at this
set_option maxRecDepth 100000 in
set_option maxHeartbeats 4000000 in
theorem waits_any (o : Od) (neg : Bool) (w : World) : Calls Try.prog 77 #[o.val, .bool neg] w (WaitRet w (waitsOf o neg)) := by
  have HO := hid (odAt_new w o)
  obtain ⟨op, fr, tt, nx⟩ := o
  go_enter Try.func77, Try.ntmps77
  go_wp2
  go_cut [5, 6, 7] (fun c5 c6 c7 wx => ∃ b5 b6 b7, c5 = .pointer (some ⟨b5, 0, none⟩) ∧ c6 = .pointer (some ⟨b6, 0, none⟩) ∧ c7 = .pointer (some ⟨b7, 0, none⟩) ∧ Blk wx b5 101 #[.int .i64 fr, .int .i64 0] ∧ Blk wx b6 101 #[.int .i64 tt, .int .i64 0] ∧ Blk wx b7 101 #[.int .i64 nx, .int .i64 0] ∧ OdAt w.heap.size ⟨op, fr, tt, nx⟩ wx ∧ Below w.heap.size w wx)
  case first =>
    have h0 := HO.out
    have hb0 := b_alloc (Below.refl w.heap.size w) (.cells #[.int .i64 op, .int .i64 fr, .int .i64 tt, .int .i64 nx] 23)
    generalize w.alloc (.cells #[.int .i64 op, .int .i64 fr, .int .i64 tt, .int .i64 nx] 23) = W1 at *
    have HD := hid h0
    obtain ⟨d0, d1, d2, d3⟩ := h0
    go_region_held3 (fun w' => w'.cell? ⟨w.heap.size, 0, none⟩ = some (.int .i64 op) ∧ w'.cell? ⟨w.heap.size, 1, none⟩ = some (.int .i64 fr) ∧ w'.cell? ⟨w.heap.size, 2, none⟩ = some (.int .i64 tt) ∧ w'.cell? ⟨w.heap.size, 3, none⟩ = some (.int .i64 nx))
      ((obtain ⟨e0, e1, e2, e3⟩ := HD.out; exact ⟨cell_later (W := W1) (by (repeat (first | assumption | exact Below.refl _ _ | refine b_alloc ?_ _ | refine Below.drew ?_ | refine b_drewN ?_ _ | refine Below.setCell ?_ (by first | omega | (simp; done) | (simp; omega)) _ | refine b_call (by assumption) ?_))) e0, cell_later (W := W1) (by (repeat (first | assumption | exact Below.refl _ _ | refine b_alloc ?_ _ | refine Below.drew ?_ | refine b_drewN ?_ _ | refine Below.setCell ?_ (by first | omega | (simp; done) | (simp; omega)) _ | refine b_call (by assumption) ?_))) e1, cell_later (W := W1) (by (repeat (first | assumption | exact Below.refl _ _ | refine b_alloc ?_ _ | refine Below.drew ?_ | refine b_drewN ?_ _ | refine Below.setCell ?_ (by first | omega | (simp; done) | (simp; omega)) _ | refine b_call (by assumption) ?_))) e2, cell_later (W := W1) (by (repeat (first | assumption | exact Below.refl _ _ | refine b_alloc ?_ _ | refine Below.drew ?_ | refine b_drewN ?_ _ | refine Below.setCell ?_ (by first | omega | (simp; done) | (simp; omega)) _ | refine b_call (by assumption) ?_))) e3⟩)) (fail)
    all_goals
      go_wp2
      go_meet
      refine ⟨_, _, _, rfl, rfl, rfl, ?_, ?_, ?_, odAt_call HD.out (by (repeat (first | assumption | exact Below.refl _ _ | refine b_alloc ?_ _ | refine Below.drew ?_ | refine b_drewN ?_ _ | refine Below.setCell ?_ (by first | omega | (simp; done) | (simp; omega)) _ | refine b_call (by assumption) ?_))), hb0.trans ((show Below W1.heap.size W1 _ from by (repeat (first | assumption | exact Below.refl _ _ | refine b_alloc ?_ _ | refine Below.drew ?_ | refine b_drewN ?_ _ | refine Below.setCell ?_ (by first | omega | (simp; done) | (simp; omega)) _ | refine b_call (by assumption) ?_))).mono hb0.size)⟩
      all_goals first | exact blk3a _ _ _ _ _ | exact blk3b _ _ _ _ _ | exact blk3c _ _ _ _ _
  case rest =>
    obtain ⟨b5, b6, b7, rfl, rfl, rfl, g5, g6, g7, ⟨d0, d1, d2, d3⟩, hbw⟩ := hcut
    have HB := hid hbw
    have h50 : wc.cell? ⟨b5, 0, none⟩ = some (.int .i64 fr) := g5.cell 0 _ rfl
    have h51 : wc.cell? ⟨b5, 1, none⟩ = some (.int .i64 0) := g5.cell 1 _ rfl
    have h60 : wc.cell? ⟨b6, 0, none⟩ = some (.int .i64 tt) := g6.cell 0 _ rfl
    have h61 : wc.cell? ⟨b6, 1, none⟩ = some (.int .i64 0) := g6.cell 1 _ rfl
    have h70 : wc.cell? ⟨b7, 0, none⟩ = some (.int .i64 nx) := g7.cell 0 _ rfl
    have h71 : wc.cell? ⟨b7, 1, none⟩ = some (.int .i64 0) := g7.cell 1 _ rfl
    have hcs : op = 6 ∨ op = 4 ∨ (op = 5 ∧ neg = true) ∨ (op = 5 ∧ neg = false) ∨ op = 7 ∨ (¬ op = 6 ∧ ¬ op = 4 ∧ ¬ op = 5 ∧ ¬ op = 7) := by
      cases neg <;> simp <;> omega
    clear hbw g5 g6 g7
    rcases hcs with rfl | rfl | ⟨rfl, rfl⟩ | ⟨rfl, rfl⟩ | rfl | ⟨n6, n4, n5, n7⟩
    · go_wp2
      go_ret
      exact waitRet_of (ws := [(tt, 0), (nx, 0)]) rfl ⟨_, rfl, pairs_new' _ _ 101 _ _ _ rfl rfl rfl, b_alloc HB.out _, HB.out.size⟩
    · go_wp2
      go_ret
      exact waitRet_of (ws := [(fr, 0), (tt, 0), (tt, 12), (nx, 0)]) rfl ⟨_, rfl, pairs_new' _ _ 101 _ _ _ rfl rfl rfl, b_alloc HB.out _, HB.out.size⟩
    · go_wp2
      go_ret
      exact waitRet_of (ws := [(fr, 0), (tt, 0)]) rfl ⟨_, rfl, pairs_new' _ _ 101 _ _ _ rfl rfl rfl, b_alloc HB.out _, HB.out.size⟩
    · go_wp2
      go_ret
      exact waitRet_of (ws := [(fr, 0), (nx, 0)]) rfl ⟨_, rfl, pairs_new' _ _ 101 _ _ _ rfl rfl rfl, b_alloc HB.out _, HB.out.size⟩
    · go_wp2
      go_ret
      exact waitRet_of (ws := [(fr, 0), (nx, 0)]) rfl ⟨_, rfl, pairs_new' _ _ 101 _ _ _ rfl rfl rfl, b_alloc HB.out _, HB.out.size⟩
    · have HW := hid (show waitsOf ⟨op, fr, tt, nx⟩ neg = [(fr, 0), (tt, 0), (nx, 0)] by unfold waitsOf; rw [if_neg n6, if_neg n4, if_neg n5, if_neg n7])
      have e6 : (op == 6) = false := by simpa using n6
      have e4 : (op == 4) = false := by simpa using n4
      have e5 : (op == 5) = false := by simpa using n5
      have e7 : (op == 7) = false := by simpa using n7
      clear n6 n4 n5 n7
      go_wp2
      go_ret
      exact waitRet_of HW.out ⟨_, rfl, pairs_new' _ _ 101 _ _ _ rfl rfl rfl, b_alloc HB.out _, HB.out.size⟩
end Go.Proofs.Ytbfhgcnfhjhgcaa
