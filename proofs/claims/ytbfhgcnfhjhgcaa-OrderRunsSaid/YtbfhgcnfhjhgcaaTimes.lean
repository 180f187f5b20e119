/-
  The words that come by for an order: comings, following, When.
-/
import Derived.Test.YtbfhgcnfhjhgcaaRange
namespace Go.Proofs.Ytbfhgcnfhjhgcaa
open Go.RowKit Go.Shelf
set_option linter.unusedVariables false
set_option linter.unusedSimpArgs false
attribute [local go_sem] Oper.semAt_some

def cycAt (ws : List (Int × Int)) (t : Int) : Nat → Int
  | 0 => t
  | k + 1 => aft (cycAt ws t k + (ws[k]?.getD (0, 0)).2) (ws[k]?.getD (0, 0)).1
def comeTo (ws : List (Int × Int)) (t : Int) (k : Nat) : List (Int × Int) := (List.range k).map fun i => ((ws[i]?.getD (0, 0)).1, cycAt ws t (i + 1))
theorem comeTo_succ (ws : List (Int × Int)) (t : Int) (k : Nat) : comeTo ws t (k + 1) = comeTo ws t k ++ [((ws[k]?.getD (0, 0)).1, cycAt ws t (k + 1))] := by simp [comeTo, List.range_succ]
theorem comeTo_len (ws : List (Int × Int)) (t : Int) (k : Nat) : (comeTo ws t k).length = k := by simp [comeTo]
def wsOk (ws : List (Int × Int)) : Prop := ∀ j, j < ws.length → (0 ≤ (ws[j]?.getD (0, 0)).1 ∧ (ws[j]?.getD (0, 0)).1 ≤ 127) ∧ 0 ≤ (ws[j]?.getD (0, 0)).2 ∧ (ws[j]?.getD (0, 0)).2 ≤ 12
theorem waits_ok {o : Od} (h : o.Ok) (neg : Bool) : wsOk (waitsOf o neg) := by
  obtain ⟨h1, h2, h3, h4⟩ := h
  have e : ∀ x ∈ waitsOf o neg, (0 ≤ x.1 ∧ x.1 ≤ 127) ∧ 0 ≤ x.2 ∧ x.2 ≤ 12 := by
    unfold waitsOf
    split <;> (try split) <;> (try split) <;> (try split) <;> intro x hx <;> simp at hx <;> (rcases hx with rfl | rfl | rfl | rfl) <;> simp <;> omega
  intro j hj
  exact e _ (by simp [hj])
theorem cycAt_bd {ws : List (Int × Int)} (h : wsOk ws) {t : Int} (ht : 0 ≤ t ∧ t ≤ 2000000000) : ∀ k, k ≤ ws.length → 0 ≤ cycAt ws t k ∧ cycAt ws t k ≤ 2000000000 + 28 * (k : Int)
  | 0, _ => by unfold cycAt; omega
  | k + 1, hk => by
    have ih := cycAt_bd h ht k (by omega)
    have hw := h k (by omega)
    have hs := aft_spec (cycAt ws t k + (ws[k]?.getD (0, 0)).2) (ws[k]?.getD (0, 0)).1 hw.1.1
    unfold cycAt
    omega
theorem PairsAt.same {W W' : World} {b : Nat} {ws : List (Int × Int)} (h : PairsAt W b ws) (e : W'.heap[b]? = W.heap[b]?) : PairsAt W' b ws := fun j hj => ⟨(World.cell?_of_block (a := ⟨b, _, none⟩) e).trans (h j hj).1, (World.cell?_of_block (a := ⟨b, _, none⟩) e).trans (h j hj).2⟩
abbrev comeEnc (x : Int × Int) : Array Value := #[.int .i64 x.1, .int .i64 x.2]

set_option maxRecDepth 100000 in
set_option maxHeartbeats 4000000 in
theorem comings1_in (o : Od) (ho : o.Ok) (t : Int) (ht : 0 ≤ t ∧ t ≤ 2000000000) (neg : Bool) (X : Nat → Prop) (W : World) (n l bT bO bN : Nat) (hn : 1 ≤ n) (J Jx : List (Int × Int) → World → Prop)
    (hY : ∀ pre x V, J pre V → pre.length < (waitsOf o neg).length → YieldAt Fence.wide (n - 1) Try.prog l (comeEnc x) V fun e W' =>
      (e = .returned (.bool true) ∧ J (pre ++ [x]) W' ∧ Kept X V W') ∨ (e = .returned (.bool false) ∧ Jx (pre ++ [x]) W'))
    (hX : ∀ k, X k → k < W.heap.size) (hJ : OwnFrom W.heap.size J) (c1 : W.cell? ⟨bT, 0, none⟩ = some (.int .i64 t)) (hO : OdAt bO o W) (c3 : W.cell? ⟨bN, 0, none⟩ = some (.bool neg)) (h0 : J [] W) :
    CallsIn Fence.wide n Try.prog 76 #[.func (.yield l) #[] #[], .pointer (some ⟨bT, 0, none⟩), .pointer (some ⟨bO, 0, none⟩), .pointer (some ⟨bN, 0, none⟩)] W fun e W' => (∃ v, e = .returned v) ∧
      ((∃ ys, ys = comeTo (waitsOf o neg) t (waitsOf o neg).length ∧ J ys W') ∨ (∃ pre, (∃ k, k ≤ (waitsOf o neg).length ∧ pre = comeTo (waitsOf o neg) t k) ∧ Jx pre W')) := by
  have HY := hid hY
  have HX := hid hX
  have HJ := hid hJ
  have HWS := hid (waits_ok ho neg)
  have HW := hid (fun V => waits_any o neg V)
  have hlen := waits_len o neg
  obtain ⟨d0, d1, d2, d3⟩ := hO
  generalize waitsOf o neg = ws at *
  obtain ⟨N, hN⟩ : ∃ N, ws.length = N := ⟨_, rfl⟩
  clear hY hX hJ
  refine callsIn_of_wp Try.func76 rfl trivial ?_ rfl
  simp only [Try.ntmps76, List.size_toArray, List.length_cons, List.length_nil, Nat.reduceAdd, Nat.reduceSub, Array.replicate_succ, Array.replicate_zero, List.push_toArray, List.append_toArray, List.nil_append, List.cons_append]
  gi_wp2_with (refine ⟨trivial, ?_⟩; gi_at_call 77; refine (inWide (HW.out _)).mono ?_; rintro e w1 ⟨bw, rfl, hp, hb1, hbw⟩; have HP := hid hp; have HB1 := hid hb1; clear hp hb1 d0 d1 d2 d3 c1 c3)
  have HJ1 := hid (HJ.out _ _ _ none h0 (grown_of_below HB1.out) (by simp))
  clear h0
  gi_loopw [5, 13] (fun cv iv wr => ∃ k : Nat, k ≤ ws.length ∧ iv = .int .i64 (k : Int) ∧ cv = .int .i64 (cycAt ws t k) ∧ J (comeTo ws t k) wr ∧ PairsAt wr bw ws) (fun _ iv _ => ws.length - (intOf iv).toNat)
  case atStart => exact ⟨0, Nat.zero_le _, rfl, rfl, HJ1.out, HP.out⟩
  case round =>
    obtain ⟨k, hk, rfl, rfl, hjk, hpk⟩ := hrel
    have HJK := hid hjk
    have HPK := hid hpk
    clear hjk hpk
    by_cases hlt : k < ws.length
    · obtain ⟨q0, q1⟩ := HPK.out k hlt
      have hwk := HWS.out k hlt
      have hcy := cycAt_bd HWS.out ht k (by omega)
      have hcs : cycAt ws t (k + 1) = aft (cycAt ws t k + (ws[k]?.getD (0, 0)).2) (ws[k]?.getD (0, 0)).1 := rfl
      have hsu := comeTo_succ ws t k
      obtain ⟨⟨a, b⟩, hx⟩ : ∃ x, ws[k]?.getD (0, 0) = x := ⟨_, rfl⟩
      rw [hx] at q0 q1 hwk hcs hsu
      simp only at q0 q1 hwk hcs hsu
      have k0 : (0 : Int) ≤ (k : Int) := by omega
      have k1 : (k : Int) < (ws.length : Int) := by omega
      have HCS := hid hcs
      have HSU := hid hsu
      rw [hcs] at hsu
      obtain ⟨cy, hcy2⟩ : ∃ cy, cycAt ws t k = cy := ⟨_, rfl⟩
      rw [hcy2] at hcy HCS hsu
      rw [hcy2]
      have hy0 := HY.out (comeTo ws t k) (a, aft (cy + b) a) (wr.alloc (.cells #[.int .i64 a, .int .i64 b] 101)) (HJ.out _ _ _ none HJK.out (World.grownBy_alloc _ _ none) (by simp)) (by rw [comeTo_len]; exact hlt)
      obtain ⟨fn, tmps, assign, body, hy, hR⟩ := hy0
      have HRR := hid hR
      clear hx hcs hcy2 hsu hR
      gi_wp2_with (refine ⟨trivial, ?_⟩; gi_at_call 78; refine (inWide (after_any _ _ (by omega) (by omega) _)).mono ?_; rintro e w2 ⟨rfl, rfl⟩)
      refine HRR.out.mono ?_
      rintro e W3 (⟨rfl, hJ3, hk3⟩ | ⟨rfl, hJx3⟩)
      · gi_wp2
        go_roundw
        case rel => exact ⟨k + 1, by omega, by go_num, by rw [HCS.out], by rw [HSU.out, HCS.out]; exact hJ3, (HPK.out.below (b_alloc (Below.refl _ _) _)).same (hk3.all _ (by have := World.block_lt_of_cell? _ _ q0; simp at this ⊢; omega) (fun x => by have := HX.out _ x; omega))⟩
        case measure => simp [intOf]; omega
      · gi_wp2
        refine bodyPost_ret (results_none rfl _ _ _) rfl ?_
        exact ⟨⟨_, rfl⟩, .inr ⟨_, ⟨k + 1, by omega, by rw [HSU.out, HCS.out]⟩, hJx3⟩⟩
    · obtain rfl : k = ws.length := by omega
      gi_wp2
      go_end0
      exact ⟨⟨_, rfl⟩, .inl ⟨_, rfl, HJK.out⟩⟩
end Go.Proofs.Ytbfhgcnfhjhgcaa
