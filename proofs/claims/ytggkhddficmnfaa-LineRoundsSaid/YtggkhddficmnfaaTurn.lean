/-
  Contract of turn: pulses come later by some beats.
-/
import Derived.Test.YtggkhddficmnfaaPulses
namespace Go.Proofs.Ytggkhddficmnfaa
open Go.RowKit
set_option linter.unusedVariables false
set_option linter.unusedSimpArgs false

/-- Pulses, by p beats later. -/
def rot (ps : List Bool) (p : Nat) : List Bool := ps.drop (ps.length - p) ++ ps.take (ps.length - p)
theorem rot_len (ps : List Bool) (p : Nat) : (rot ps p).length = ps.length := by simp [rot]
/-- The block g holds these cells, from its beginning on. -/
def RowAt (W : World) (g : Nat) (vs : List Value) : Prop := ∀ j, j < vs.length → W.cell? ⟨g, j, none⟩ = vs[j]?
theorem RowAt.below {W W' : World} {g : Nat} {vs : List Value} (h : RowAt W g vs) (hb : Below W.heap.size W W') : RowAt W' g vs := fun j hj => by
  have e := h j hj
  rw [List.getElem?_eq_getElem hj] at e ⊢
  exact cell_later hb e
theorem rowAt_of_owns {W : World} {base t g n cap : Nat} {vs : List Value} (h : W.ownsRow base t 1 (.slice (some ⟨g, 0, none⟩) n cap) n vs) : RowAt W g vs := fun j hj => by
  have := h.1
  exact h.cellAt j (by omega)
theorem heap_of_full {W : World} {base t g n : Nat} {vs : List Value} (h : W.ownsRow base t 1 (.slice (some ⟨g, 0, none⟩) n n) n vs) : W.heap[g]? = some (.cells vs.toArray t (0, 0)) := by
  obtain ⟨hl, h⟩ := h
  rcases h with ⟨e, _⟩ | ⟨g', cap, cur, e, _, hh, _, _, hs, ht⟩
  · cases e
  · cases e
    rw [hh]
    have : cur = vs.toArray := by
      apply Array.toList_inj.1
      rw [← ht, List.take_of_length_le (by simp; omega)]
    rw [this]
theorem owns_of_heap {W : World} {base t g : Nat} {vs : List Value} (hb : base ≤ g) (h : W.heap[g]? = some (.cells vs.toArray t (0, 0))) (hm : vs.length ≤ maxLen) : W.ownsRow base t 1 (.slice (some ⟨g, 0, none⟩) vs.length vs.length) vs.length vs :=
  ⟨by simp, .inr ⟨g, vs.length, vs.toArray, rfl, hb, h, Nat.le_refl _, hm, by simp, by simp⟩⟩

theorem bools_one (ps : List Bool) : ∀ v ∈ ps.map Value.bool, v.oneCell' = true := by
  intro v hv; obtain ⟨b, _, rfl⟩ := List.mem_map.1 hv; rfl
theorem addr_add (g q j : Nat) : (⟨g, q, none⟩ : Addr).add j = ⟨g, q + j, none⟩ := by
  unfold Addr.add; split <;> simp_all
theorem splice_start {W : World} {g t : Nat} {n : Nat} {z : Value} {cs : List Value} (h : W.heap[g]? = some (.cells (splice (List.replicate n z) 0 cs).toArray t (0, 0))) (hl : cs.length ≤ n) :
    W.heap[g]? = some (.cells (cs ++ List.replicate (n - cs.length) z).toArray t (0, 0)) := by
  rw [h]; simp [splice]
theorem szB : (Try.prog.info? 4).map (·.size) = some 1 := by kernel_rfl
set_option maxRecDepth 100000 in
set_option maxHeartbeats 400000 in
theorem turn_any (ps : List Bool) (h1 : 1 ≤ ps.length) (h2 : ps.length ≤ 2560) (g cap : Nat) (hcap : ps.length ≤ cap) (by' : Int) (w : World) (hx : RowAt w g (ps.map Value.bool)) :
    Calls Try.prog 66 #[.slice (some ⟨g, 0, none⟩) ps.length cap, .int .i64 by'] w (RetRow w 4 ((rot ps (by' % ps.length).toNat).map Value.bool)) := by
  obtain ⟨iB, hiB, hzB0, hzB1, hzB2⟩ := info_parts infoB
  have m1 := Int.emod_nonneg by' (show (ps.length : Int) ≠ 0 by omega)
  have m2 := Int.emod_lt_of_pos by' (show (0 : Int) < ps.length by omega)
  obtain ⟨p, hp⟩ : ∃ p : Nat, by' % (ps.length : Int) = (p : Int) := ⟨(by' % (ps.length : Int)).toNat, by omega⟩
  have hpn : p < ps.length := by omega
  rw [hp] at m1 m2 ⊢
  rw [Int.toNat_natCast]
  have HP := hid hp
  have HX := hid hx
  clear hp hx m1 m2
  go_enter Try.func66, Try.ntmps66
  go_wp2_with (first
    | (go_at_call 77; refine (modulo_any _ _ _ (by omega) (by omega)).mono ?_; rintro e w' ⟨rfl, rfl⟩; rw [HP.out])
    | (refine wpList_make_full _ rfl _ _ 91 rfl (w.heap.size) 4 iB (.bool false) 1 Try.underlying91 hiB hzB0 hzB1 .i64 .i64 (ps.length : Int) (ps.length : Int) ps.length rfl rfl rfl rfl (by rw [hzB2]; omega) (by unfold maxLen; omega) (Nat.le_refl _) ?_; intro w2 hown hgrow))
  obtain ⟨q, hq⟩ : ∃ q : Nat, ps.length = q + p := ⟨ps.length - p, by omega⟩
  have hq1 : 1 ≤ q := by omega
  have hheap := heap_of_full hown
  have hBel := below_of_grown hgrow
  have hsrc := hid (HX.out.below hBel)
  have hz : (madeCells (Value.bool false).cells (ps.length * 1)).toList = List.replicate ps.length (.bool false) := by
    rw [Nat.mul_one]; exact toList_madeCells_one _ _
  rw [hz] at hheap
  have HHeap := hid hheap
  have HQ := hid hq
  have heq : (ps.length : Int) - (p : Int) = (q : Int) := by omega
  have hle : q ≤ ps.length := by omega
  have hle2 : (q : Int) ≤ (ps.length : Int) := by omega
  have hle3 : (q : Int) ≤ (cap : Int) := by omega
  have hpl : (p : Int) ≤ (ps.length : Int) := by omega
  clear hown hgrow hheap hz
  rw [heq]
  clear heq hq
  have hnp : ¬ ps.length = p := by omega
  obtain ⟨sp, hsp⟩ : ∃ sp : Option Addr, (if cap = q then some (⟨g, 0, none⟩ : Addr) else some ⟨g, q, none⟩) = sp := ⟨_, rfl⟩
  have A1 := hid (show ((ps.drop q).map Value.bool).length = Nat.min (ps.length - q) p by
    rw [List.length_map, List.length_drop]; exact (Nat.min_eq_left (by have := HQ.out; omega)).symm)
  have A2 := hid (show 0 < ((ps.drop q).map Value.bool).length → some (⟨w.heap.size, 0, none⟩ : Addr) = some ⟨w.heap.size, 0, none⟩ ∧ ∃ ad, sp = some ad ∧ ∀ j v, ((ps.drop q).map Value.bool)[j]? = some v → w2.drew.cell? (ad.add j) = some v from fun h0 => by
    refine ⟨rfl, ⟨g, q, none⟩, by rw [← hsp]; exact if_neg (by simp at h0; omega), fun j v hv => ?_⟩
    have hj : j < ps.length - q := by have := (List.getElem?_eq_some_iff.1 hv).1; simpa using this
    have := hsrc.out (q + j) (by simp; omega)
    rw [addr_add]
    show w2.cell? ⟨g, q + j, none⟩ = some v
    rw [this, ← hv]; simp)
  have A3 : 0 + ((ps.drop q).map Value.bool).length ≤ (List.replicate ps.length (Value.bool false)).length := by simp
  have A4 : ∀ v ∈ (ps.drop q).map Value.bool, v.oneCell' = true := bools_one _
  have HB := hid hBel
  clear hBel
  go_region_law (refine step_copy_splice rfl (.tmp 21) (.tmp 24) 91 91 rfl 4 Try.underlying91 szB (some ⟨w.heap.size, 0, none⟩) sp p p (ps.length - q) (cap - q) (by go_simp) (by go_simp) w.heap.size 0 (List.replicate ps.length (.bool false)) 4 HHeap.out ((ps.drop q).map Value.bool) A1.out A2.out A3 A4 w.heap.size w HB.out.drew (Nat.le_refl _) ?_; intro w4 hg4 hb4)
  have hg5 := hid (splice_start hg4.out (by simp))
  rw [List.length_map, List.length_drop] at hg5
  clear hsp A1 A2 A3 A4 hg4
  go_wp2
  have B1 := hid (show ((ps.take q).map Value.bool).length = Nat.min q (ps.length - p) by
    rw [List.length_map, List.length_take]; have := HQ.out; rw [Nat.min_eq_left (by omega)]; exact (Nat.min_eq_left (by omega)).symm)
  have B2 := hid (show 0 < ((ps.take q).map Value.bool).length → some (⟨w.heap.size, p, none⟩ : Addr) = some ⟨w.heap.size, p, none⟩ ∧ ∃ ad, some (⟨g, 0, none⟩ : Addr) = some ad ∧ ∀ j v, ((ps.take q).map Value.bool)[j]? = some v → w4.drew.cell? (ad.add j) = some v from fun h0 => by
    refine ⟨rfl, ⟨g, 0, none⟩, rfl, fun j v hv => ?_⟩
    have hj : j < ps.length := by have := (List.getElem?_eq_some_iff.1 hv).1; simp at this; omega
    have h5 := (HX.out.below hb4) j (by simpa using hj)
    rw [addr_add, Nat.zero_add]
    show w4.cell? ⟨g, j, none⟩ = some v
    rw [h5, ← hv]
    have hjq : j < q := by have := (List.getElem?_eq_some_iff.1 hv).1; simp at this; omega
    simp [List.getElem?_take, hjq])
  have B3 : p + ((ps.take q).map Value.bool).length ≤ ((ps.drop q).map Value.bool ++ List.replicate (ps.length - (ps.length - q)) (Value.bool false)).length := by
    simp; have := HQ.out; omega
  have B4 : ∀ v ∈ (ps.take q).map Value.bool, v.oneCell' = true := bools_one _
  go_region_law (refine step_copy_splice rfl (.tmp 28) (.tmp 32) 91 91 rfl 4 Try.underlying91 szB (some ⟨w.heap.size, p, none⟩) (some ⟨g, 0, none⟩) (ps.length - p) (ps.length - p) q q (by go_simp) (by go_simp) w.heap.size p ((ps.drop q).map Value.bool ++ List.replicate (ps.length - (ps.length - q)) (Value.bool false)) 4 hg5.out ((ps.take q).map Value.bool) B1.out B2.out B3 B4 w.heap.size w hb4.drew (Nat.le_refl _) ?_; intro w6 hg6 hb6)
  go_wp2
  go_ret
  have hfin := hg6.out
  have hq := HQ.out
  have hs : splice ((ps.drop q).map Value.bool ++ List.replicate (ps.length - (ps.length - q)) (Value.bool false)) p ((ps.take q).map Value.bool) = (rot ps p).map Value.bool := by
    unfold rot splice
    rw [show ps.length - p = q by omega, List.map_append]
    rw [List.take_append_of_le_length (by simp; omega), List.take_of_length_le (by simp; omega)]
    congr 1
    rw [List.drop_eq_nil_of_le (by simp; omega), List.append_nil]
  rw [hs] at hfin
  have hr := rot_len ps p
  refine ⟨w.heap.size, ps.length, ?_, ?_, hb6⟩
  · show Ending.returned (.slice (some ⟨w.heap.size, 0, none⟩) ps.length ps.length) = _
    rw [List.length_map, hr]
  · have := owns_of_heap (Nat.le_refl _) hfin (by rw [List.length_map, hr]; unfold maxLen; omega)
    rw [List.length_map, hr] at this ⊢
    exact this
end Go.Proofs.Ytggkhddficmnfaa
