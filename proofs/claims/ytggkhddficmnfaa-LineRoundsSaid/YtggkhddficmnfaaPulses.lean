/-
  Contracts of pulsesOf, wordsOf, turn: pulses as bools.
-/
import Derived.Laws.CopyOwn
import Derived.Deep.RegionLaw
import Derived.Test.YtggkhddficmnfaaWords
namespace Go.Proofs.Ytggkhddficmnfaa
open Go.RowKit
set_option linter.unusedVariables false
set_option linter.unusedSimpArgs false

theorem infoB : (Try.prog.info? 4).map (fun i => (i.zero, i.size, i.bytes)) = some (some (.bool false), 1, 1) := by kernel_rfl
theorem infoI : (Try.prog.info? 3).map (fun i => (i.zero, i.size, i.bytes)) = some (some (.int .i64 0), 1, 8) := by kernel_rfl

theorem below_of_grown {W W' : World} (h : W.grownBy W' none) : Below W.heap.size W W' := ⟨h.os, h.tape, h.output, h.size, fun k hk => h.block k hk (by simp)⟩
/-- What an append to a row of the call's own leaves of the other cells. -/
theorem Cel.grown {W W' : World} {b o : Nat} {v : Value} {row : Option Nat} (h : Cel W b o v) (hg : W.grownBy W' row) (hne : ∀ r, row = some r → b ≠ r) : Cel W' b o v := by
  have e := hg.block b h.lt (fun e => hne b e.symm rfl)
  exact ⟨(World.cell?_of_block (a := ⟨b, o, none⟩) e).trans h.1, (World.frozen?_of_block (a := ⟨b, o, none⟩) e).trans h.2⟩
theorem IntsAt.grown {B : Nat} {w W W' : World} {a : Option Addr} {xs : List Int} {row : Option Nat} (h : IntsAt w a xs) (hb : Below B w W) (hB : w.heap.size ≤ B) (hg : W.grownBy W' row) (hne : ∀ r, row = some r → B ≤ r) : IntsAt W' a xs := fun j hj => by
  obtain ⟨b, off, e, hc⟩ := h j hj
  have hlt := World.block_lt_of_cell? w _ hc
  have h1 : W.heap[b]? = w.heap[b]? := hb.block b (by simp at hlt; omega)
  have h2 : W'.heap[b]? = W.heap[b]? := hg.block b (by have := hb.size; simp at hlt; omega) (fun e => by have := hne b e.symm; simp at hlt; omega)
  exact ⟨b, off, e, (World.cell?_of_block (a := ⟨b, off + j, none⟩) (h2.trans h1)).trans hc⟩
theorem ownsRow_shape {W : World} {base : Nat} {e : TypeId} {size : Nat} {g : Nat} {n cap k m : Nat} {v v' : Value} {xs : List Value} (hv : v = .slice (some ⟨g, 0, none⟩) n cap) (h : W.ownsRow base e size v' m xs)
    (hn : v' = .slice none 0 0 ↔ v = .slice none 0 0 ∧ k = 0) : ∃ g cap, v' = .slice (some ⟨g, 0, none⟩) m cap := by
  rcases h.2 with ⟨e1, _⟩ | ⟨g, cap, _, e1, _⟩
  · have := (hn.1 e1).1; rw [hv] at this; cases this
  · exact ⟨g, cap, e1⟩
theorem ownsRow_block {W : World} {base : Nat} {e : TypeId} {size : Nat} {v : Value} {n : Nat} {xs : List Value} (h : W.ownsRow base e size v n xs) : ∀ r, v.ownBlock = some r → base ≤ r := fun r hr => (h.lt r hr).1
theorem ownsRow_low {W : World} {base base' : Nat} {e : TypeId} {size : Nat} {v : Value} {n : Nat} {xs : List Value} (h : W.ownsRow base e size v n xs) (hb : base' ≤ base) : W.ownsRow base' e size v n xs :=
  ⟨h.1, h.2.imp id (fun ⟨g, cap, cur, e, hg, r⟩ => ⟨g, cap, cur, e, Nat.le_trans hb hg, r⟩)⟩

/-- The call returns a new slice of these cells, of elements of type t. -/
def RetRow (w : World) (t : TypeId) (vs : List Value) (e : Ending) (w' : World) : Prop :=
  ∃ g cap, e = .returned (.slice (some ⟨g, 0, none⟩) vs.length cap) ∧ w'.ownsRow w.heap.size t 1 (.slice (some ⟨g, 0, none⟩) vs.length cap) vs.length vs ∧ Below w.heap.size w w'

/-- The bit b of a number. -/
def bitOf (x : Int) (b : Nat) : Bool := (x / 2 ^ b) % 2 == 1
def bitsOf (x : Int) (n : Nat) : List Bool := (List.range n).map (bitOf x)
theorem bitsOf_succ (x : Int) (n : Nat) : bitsOf x (n + 1) = bitsOf x n ++ [bitOf x n] := by simp [bitsOf, List.range_succ]
theorem bitsOf_len (x : Int) (n : Nat) : (bitsOf x n).length = n := by simp [bitsOf]
def pulsesFrom (ws : List Int) (n : Nat) : List Bool := (ws.map (bitsOf · n)).flatten
theorem pulsesFrom_snoc (ws : List Int) (x : Int) (n : Nat) : pulsesFrom (ws ++ [x]) n = pulsesFrom ws n ++ bitsOf x n := by simp [pulsesFrom]
theorem pulsesFrom_len (ws : List Int) (n : Nat) : (pulsesFrom ws n).length = ws.length * n := by
  induction ws with
  | nil => simp [pulsesFrom]
  | cons a ws ih => unfold pulsesFrom at *; rw [List.map_cons, List.flatten_cons, List.length_append, ih, bitsOf_len, List.length_cons, Nat.succ_mul]; omega
theorem take_snoc {xs : List Int} {k : Nat} (h : k < xs.length) : xs.take (k + 1) = xs.take k ++ [xs[k]] := by
  rw [List.take_succ_eq_append_getElem h]

theorem word_nonneg {b : Int} {ws : List Int} (h : wordsOk b ws) {k : Nat} {hk : k < ws.length} {x : Int} (e : ws[k] = x) : 0 ≤ x ∧ x ≤ pw b - 1 := e ▸ h _ (List.getElem_mem hk)
theorem word_le {b : Int} {ws : List Int} (h : wordsOk b ws) {k : Nat} {hk : k < ws.length} {x : Int} (e : ws[k] = x) (hb : b ≤ 40) : x ≤ 1099511627776 := by
  have := word_nonneg h e; have := pw_bd hb; omega
theorem and_one_i64 (E : Int) (h0 : 0 ≤ E) (h1 : E ≤ 9223372036854775807) : bits BinOp.and IntKind.i64 E 1 = E % 2 := by
  have h := (bits_nat .i64 63 (by decide) (fun n h0 h1 => IntWalk.i64_in n (by omega)) E.toNat 1 (by omega) (by omega)).1
  rw [Nat.and_one_is_mod, Int.toNat_of_nonneg h0] at h
  have h2 : ((E.toNat % 2 : Nat) : Int) = E % 2 := by omega
  exact h.trans h2

set_option maxRecDepth 100000 in
set_option maxHeartbeats 2000000 in
theorem pulsesOf_any (l : Ln) (h : l.Ok) (a : Option Addr) (cap : Nat) (ws : List Int) (hlen : (ws.length : Int) = l.W) (hok : wordsOk l.B ws) (w : World) (hx : IntsAt w a ws) :
    Calls Try.prog 64 #[l.val, .slice a ws.length cap] w (RetRow w 4 ((pulsesFrom ws l.B.toNat).map Value.bool)) := by
  obtain ⟨iB, hiB, hzB0, hzB1, hzB2⟩ := info_parts infoB
  have hb := h.beats
  obtain ⟨h1, h2, _⟩ := id h
  have hle : ws.length ≤ 64 := by omega
  have HL := hid hlen
  have HX0 := hid hx
  clear hlen hx
  go_enter Try.func64, Try.ntmps64
  go_wp2_with (first
    | (go_at_call 71; refine (beats_any l h _).mono ?_; rintro e w1 ⟨rfl, hb1⟩; have k1 := ((Cel.new _ #[.int .i64 l.W, .int .i64 l.B, .int .i64 l.P, .int .i64 l.D, .int .i64 l.S, .int .i64 l.N] 25 1 _ rfl).call hb1))
    | (refine wpList_make_own _ rfl _ _ 91 rfl (w.heap.size + 1) 4 iB (.bool false) 1 Try.underlying91 hiB hzB0 hzB1 .i64 .i64 (l.W * l.B) (l.W * l.B).toNat rfl rfl (by omega) (by rw [hzB2]; omega) (by unfold maxLen; omega) (by have := hb1.size; simp at this; omega) ?_; intro w2 hown hgrow))
  obtain ⟨n, hn⟩ : ∃ n : Nat, l.B = (n : Int) := ⟨l.B.toNat, by omega⟩
  have hn1 : n ≤ 40 := by omega
  have hw2 := k1.grown hgrow (fun _ e => by cases e)
  have hBel : Below w.heap.size w w2 := b_call (below_of_grown hgrow) (b_call hb1 (b_alloc (Below.refl _ _) _))
  rw [show l.B.toNat = n by omega]
  rw [hn] at hw2
  have HN := hid hn
  clear hn k1 hb1
  go_loopw [5, 14] (fun v i wr => ∃ k : Nat, k ≤ ws.length ∧ i = .int .i64 k ∧ (∃ g cap, v = .slice (some ⟨g, 0, none⟩) (k * n) cap) ∧ wr.ownsRow (w.heap.size + 1) 4 1 v (k * n) ((pulsesFrom (ws.take k) n).map Value.bool) ∧
      Cel wr w.heap.size 1 (.int .i64 (n : Int)) ∧ Below w.heap.size w wr) (fun _ i _ => ws.length - (intOf i).toNat)
  case atStart => exact ⟨0, Nat.zero_le _, rfl, ⟨_, _, by rw [Nat.zero_mul]⟩, by simpa [pulsesFrom] using hown, hw2, hBel⟩
  case round =>
    obtain ⟨k, hk, rfl, ⟨g, c, rfl⟩, hrow, hk1, hbr⟩ := hrel
    clear hown hw2 hBel hgrow
    have HROW := hid hrow
    clear hrow
    by_cases hlt : k < ws.length
    · obtain ⟨b, off, rfl, hc⟩ := (HX0.out.below hbr) k hlt
      obtain ⟨q1, q2⟩ := id hk1
      go_wp2
      obtain ⟨wo, rfl⟩ : ∃ wo : World, wo = wr := ⟨_, rfl⟩
      obtain ⟨x, hxk⟩ : ∃ x, ws[k] = x := ⟨_, rfl⟩
      rw [hxk]
      have HX := hid hxk
      clear hxk hc q1 q2
      go_loopw [5, 20] (fun v i wr => ∃ j : Nat, j ≤ n ∧ i = .int .i64 j ∧ (∃ g cap, v = .slice (some ⟨g, 0, none⟩) (k * n + j) cap) ∧ wr.ownsRow (w.heap.size + 1) 4 1 v (k * n + j) ((pulsesFrom (ws.take k) n ++ bitsOf x j).map Value.bool) ∧
          Cel wr w.heap.size 1 (.int .i64 (n : Int)) ∧ Below w.heap.size w wr) (fun _ i _ => n - (intOf i).toNat)
      case atStart => exact ⟨0, Nat.zero_le _, rfl, ⟨g, c, by rw [Nat.add_zero]⟩, by simpa [bitsOf] using HROW.out, hk1, hbr⟩
      case round =>
        obtain ⟨j, hj, rfl, ⟨g1, c1, rfl⟩, hrow1, hk2, hbr1⟩ := hrel
        have HROW1 := hid hrow1
        clear hrow1
        by_cases hjlt : j < n
        · have hx0 := word_nonneg hok HX.out
          have hq0 : 0 ≤ x / 2 ^ j ∧ x / 2 ^ j ≤ 1099511627776 := ⟨Int.ediv_nonneg hx0.1 (Int.le_of_lt (Int.pow_pos (by omega))), Int.le_trans (Int.ediv_le_self _ hx0.1) (word_le hok HX.out h2.2)⟩
          have hbit := and_one_i64 (x / 2 ^ j) hq0.1 (by omega)
          have hkn : k * n ≤ 64 * 40 := Nat.mul_le_mul (by have := HL.out; omega) hn1
          have hsz := hbr1.size
          go_wp2_with (at_builtin; refine wpList_append_own _ rfl _ _ 91 rfl (w.heap.size + 1) 4 iB (.bool false) 1 1 Try.underlying91 hiB hzB0 hzB1 hzB2 rfl (by decide) _ _ _ rfl (HROW1.out.alloc _) ⟨wr.heap.size, 0, none⟩ 1 1 [.bool (x / 2 ^ j % 2 == 1)] rfl rfl (cell_one_new _ _ _) (by intro u hu; simp at hu; subst hu; rfl) (by unfold maxLen; omega) (by omega) (by simp; have := hk2.lt; omega) ?_; intro v' w3 hown3 hg3 hnil)
          go_roundw
          case rel =>
            have hg1 := ownsRow_block HROW1.out
            refine ⟨j + 1, by omega, by go_num, ownsRow_shape rfl hown3 hnil, ?_, (hk2.alloc _).grown hg3 (fun r e => by have := hg1 r e; omega), (b_alloc hbr1 _).grown hg3 (by simp; omega) (fun r e => by have := hg1 r e; omega)⟩
            rw [bitsOf_succ, ← List.append_assoc, List.map_append]
            exact hown3
          case measure => simp [intOf]; omega
        · obtain rfl : j = n := by omega
          go_wp2
          go_roundw
          case rel =>
            refine ⟨k + 1, by omega, by go_num, ⟨g1, c1, by rw [Nat.succ_mul]⟩, ?_, hk2, hbr1⟩
            have := HROW1.out
            rw [Nat.succ_mul, take_snoc hlt, pulsesFrom_snoc, HX.out]
            exact this
          case measure => simp [intOf]; omega
    · obtain rfl : k = ws.length := by omega
      have hrow1 := HROW.out
      have hp := pulsesFrom_len ws n
      rw [List.take_of_length_le (Nat.le_refl _)] at hrow1
      go_wp2
      go_ret
      rw [show l.B.toNat = n by have := HN.out; omega]
      refine ⟨g, c, ?_, ?_, hbr⟩
      · show Ending.returned (.slice (some ⟨g, 0, none⟩) (ws.length * n) c) = _
        rw [List.length_map, hp]
      · have := ownsRow_low hrow1 (show w.heap.size ≤ w.heap.size + 1 by omega)
        rw [List.length_map, hp]
        exact this
end Go.Proofs.Ytggkhddficmnfaa
