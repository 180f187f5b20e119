/-
  Contracts of sum and Write.
-/
import Derived.RangeFuncBox
import Derived.Test.YtlocdkjnefmiaaaGSmall
namespace Go.Proofs.Ytlocdkjnefmiaaa
open Go.RowKit
set_option linter.unusedVariables false
set_option linter.unusedSimpArgs false

/-- The slice that begins at a holds the bytes xs. -/
def BytesAt (W : World) (a : Option Addr) (xs : List Int) : Prop :=
  ∀ j, j < xs.length → ∃ b off, a = some ⟨b, off, none⟩ ∧ W.cell? ⟨b, off + j, none⟩ = some (.int .u8 (xs[j]?.getD 0))
theorem BytesAt.below {W W' : World} {a : Option Addr} {xs : List Int} (h : BytesAt W a xs) (hb : Below W.heap.size W W') : BytesAt W' a xs := fun j hj => by
  obtain ⟨b, off, e, hc⟩ := h j hj
  exact ⟨b, off, e, cell_later hb hc⟩
theorem grown_under {W W' : World} (h : Below W.heap.size W W') : W.grownBy W' none := ⟨h.os, h.tape, h.output, h.size, fun k hk _ => h.block k hk⟩
def sumB (xs : List Int) : Int := xs.foldl (fun s x => (s + x) % 256) 0
theorem sumB_snoc (xs : List Int) (x : Int) : sumB (xs ++ [x]) = (sumB xs + x) % 256 := by simp [sumB]
theorem sumB_bd (xs : List Int) : 0 ≤ sumB xs ∧ sumB xs ≤ 255 := by
  rcases List.eq_nil_or_concat xs with rfl | ⟨ys, x, rfl⟩
  · simp [sumB]
  · rw [List.concat_eq_append, sumB_snoc]; omega
abbrev bytesOk (xs : List Int) : Prop := ∀ x ∈ xs, 0 ≤ x ∧ x ≤ 255

set_option maxHeartbeats 1000000 in
theorem sum_any (a : Option Addr) (cap : Nat) (xs : List Int) (hok : bytesOk xs) (hn : Len xs.length) (w : World) (hx : BytesAt w a xs) :
    Calls Try.prog 86 #[.slice a xs.length cap] w (Ret w (.int .u8 (sumB xs))) := by
  have HX := hid hx
  have HO := hid hok
  clear hx hok
  go_enter Try.func86, Try.ntmps86
  go_wp2
  go_loop [3, 8] (fun s i => ∃ k : Nat, k ≤ xs.length ∧ i = .int .i64 k ∧ s = .int .u8 (sumB (xs.take k))) (fun _ i => xs.length - (intOf i).toNat)
  case atStart => exact ⟨0, by omega, rfl, rfl⟩
  case round =>
    obtain ⟨k, hk, rfl, rfl⟩ := hrel
    by_cases hlt : k < xs.length
    · obtain ⟨b, off, rfl, hc⟩ := HX.out k hlt
      have hx1 : xs[k]?.getD 0 = xs[k] := by simp [hlt]
      have hb := HO.out xs[k] (List.getElem_mem hlt)
      rw [hx1] at hc
      obtain ⟨x, hxk⟩ : ∃ x, xs[k] = x := ⟨_, rfl⟩
      rw [hxk] at hc hb
      have hs := sumB_bd (xs.take k)
      have hnx : sumB (xs.take (k + 1)) = (sumB (xs.take k) + x) % 256 := by rw [take_snoc hlt, sumB_snoc, hxk]
      have HNX := hid hnx
      clear hx1 hxk hnx
      generalize sumB (xs.take k) = s at *
      go_wp2
      go_round
      case rel => exact ⟨k + 1, by omega, by go_num, by rw [HNX.out]⟩
      case measure => simp [intOf]; omega
    · obtain rfl : k = xs.length := by omega
      have ht : xs.take xs.length = xs := List.take_of_length_le (Nat.le_refl _)
      rw [ht]
      go_wp2
      go_ret
      exact ⟨rfl, by (repeat (first | assumption | exact Below.refl _ _ | refine b_alloc ?_ _ | refine Below.drew ?_ | refine b_drewN ?_ _ | refine Below.setCell ?_ (by first | omega | (simp; done) | (simp; omega)) _ | refine b_call (by assumption) ?_))⟩

theorem infoY : (Try.prog.info? 5).map (fun i => (i.zero, i.size, i.bytes)) = some (some (.int .u8 0), 1, 1) := by kernel_rfl
/-- The bytes of a word, the lowest first. -/
def byteOf (x : Int) (b : Nat) : Int := (x / 256 ^ b) % 256
def bytesFrom (x : Int) (n : Nat) : List Int := (List.range n).map (byteOf x)
theorem bytesFrom_succ (x : Int) (n : Nat) : bytesFrom x (n + 1) = bytesFrom x n ++ [byteOf x n] := by simp [bytesFrom, List.range_succ]
theorem bytesFrom_len (x : Int) (n : Nat) : (bytesFrom x n).length = n := by simp [bytesFrom]
def sizeOf' (l : Ln) : Nat := ((l.B + 7) / 8).toNat
def bodyOf (l : Ln) (n : Nat) (ws : List Int) : List Int := [77, 76, l.W, l.B] ++ (ws.map (bytesFrom · n)).flatten
theorem bodyOf_snoc (l : Ln) (n : Nat) (ws : List Int) (x : Int) : bodyOf l n (ws ++ [x]) = bodyOf l n ws ++ bytesFrom x n := by simp [bodyOf]
theorem bodyOf_len (l : Ln) (n : Nat) (ws : List Int) : (bodyOf l n ws).length = 4 + ws.length * n := by
  have h : ∀ ws : List Int, ((ws.map (bytesFrom · n)).flatten).length = ws.length * n := by
    intro ws
    induction ws with
    | nil => simp
    | cons a ws ih => rw [List.map_cons, List.flatten_cons, List.length_append, ih, bytesFrom_len, List.length_cons, Nat.succ_mul]; omega
  rw [bodyOf, List.length_append, h]; rfl
/-- The file of a line and its words. -/
def fileOf (l : Ln) (ws : List Int) : List Int := bodyOf l (sizeOf' l) ws ++ [(-sumB (bodyOf l (sizeOf' l) ws)) % 256]

theorem bodyOf_ok (l : Ln) (h : l.Ok) (n : Nat) (ws : List Int) : bytesOk (bodyOf l n ws) := by
  obtain ⟨h1, h2, _⟩ := id h
  intro x hx
  unfold bodyOf at hx
  rcases List.mem_append.1 hx with hx | hx
  · simp at hx; omega
  · obtain ⟨ys, hy, hx⟩ := List.mem_flatten.1 hx
    obtain ⟨y, _, rfl⟩ := List.mem_map.1 hy
    obtain ⟨b, _, rfl⟩ := List.mem_map.1 hx
    unfold byteOf; omega
theorem bytesAt_of_owns {W : World} {base t g n cap : Nat} {xs : List Int} (h : W.ownsRow base t 1 (.slice (some ⟨g, 0, none⟩) n cap) n (xs.map (Value.int .u8))) : BytesAt W (some ⟨g, 0, none⟩) xs := fun j hj => by
  have := rowAt_of_owns h j (by simpa using hj)
  exact ⟨g, 0, rfl, by rw [Nat.zero_add, this]; simp [hj]⟩

set_option maxRecDepth 100000 in
set_option maxHeartbeats 2000000 in
theorem Write_ok (l : Ln) (h : l.Ok) (a : Option Addr) (cap : Nat) (ws : List Int) (hlen : (ws.length : Int) = l.W) (hok : wordsOk l.B ws) (w : World) (hx : IntsAt w a ws) :
    Calls Try.prog 40 #[l.val, .slice a ws.length cap] w fun e w' => ∃ g c, e = .returned (.tuple #[.slice (some ⟨g, 0, none⟩) (fileOf l ws).length c, .int .i64 0]) ∧ w'.ownsRow w.heap.size 5 1 (.slice (some ⟨g, 0, none⟩) (fileOf l ws).length c) (fileOf l ws).length ((fileOf l ws).map (Value.int .u8)) ∧ Below w.heap.size w w' := by
  have hE : wordsErr l ws = 0 := by unfold wordsErr; rw [if_pos hlen]; exact if_pos hok
  have HE := hid hE
  have HL := hid hlen
  have HX := hid hx
  clear hE hlen hx
  go_enter Try.func40, Try.ntmps40
  go_wp2_with (first
    | (go_at_call 25; refine (Check_ok l h _).mono ?_; rintro e w1 ⟨rfl, hb1⟩; have hB1 := hid (show Below w.heap.size w w1 by (repeat (first | assumption | exact Below.refl _ _ | refine b_alloc ?_ _ | refine Below.drew ?_ | refine b_drewN ?_ _ | refine Below.setCell ?_ (by first | omega | (simp; done) | (simp; omega)) _ | refine b_call (by assumption) ?_))); have K1 := hid ((Cel.new w #[.int .i64 l.W, .int .i64 l.B, .int .i64 l.P, .int .i64 l.D, .int .i64 l.S, .int .i64 l.N] 25 1 _ rfl).call hb1); have hL1 := hid (lnAt_call (lnAt_new' l w) hb1); obtain ⟨d0, d1, d2, d3, d4, d5⟩ := hL1.out; clear hb1)
    | (go_at_call 84; refine (wordsError_any l h a cap ws _ (by exact HX.out.below (by (repeat (first | assumption | exact Below.refl _ _ | refine b_alloc ?_ _ | refine Below.drew ?_ | refine b_drewN ?_ _ | refine Below.setCell ?_ (by first | omega | (simp; done) | (simp; omega)) _ | refine b_call (by assumption) ?_))))).mono ?_; rintro e w2 ⟨rfl, hb2⟩; rw [HE.out]; have K2 := hid (K1.out.call hb2); have hB2 := hid (b_call hb2 hB1.out); have hL2 := hid (lnAt_call hL1.out hb2); clear d0 d1 d2 d3 d4 d5; obtain ⟨d0, d1, d2, d3, d4, d5⟩ := hL2.out; clear hb2))
  obtain ⟨iB, hiB, hzB0, hzB1, hzB2⟩ := info_parts infoY
  obtain ⟨h1, h2, _⟩ := id h
  have hle : ws.length ≤ 64 := by have := HL.out; omega
  obtain ⟨n, hn⟩ : ∃ n : Nat, (l.B + 7) / 8 = (n : Int) := ⟨((l.B + 7) / 8).toNat, by omega⟩
  have hsz : sizeOf' l = n := by unfold sizeOf'; omega
  have hn1 : 1 ≤ n ∧ n ≤ 5 := by omega
  have HSZ := hid hsz
  have HN := hid hn
  clear hsz hn
  have e0 : l.W % 256 = l.W := by omega
  have e1 : l.B % 256 = l.B := by omega
  rw [e0, e1]
  have hown : (w2.alloc (.cells #[.int .u8 77, .int .u8 76, .int .u8 l.W, .int .u8 l.B] 5)).ownsRow (w.heap.size + 1) 5 1 (.slice (some ⟨w2.heap.size, 0, none⟩) 4 4) 4 ((bodyOf l n (ws.take 0)).map (Value.int .u8)) :=
    ⟨by simp [bodyOf], .inr ⟨w2.heap.size, 4, _, rfl, World.block_lt_of_cell? _ _ d0, World.alloc_heap_new _ _, by omega, by unfold maxLen; omega, rfl, by simp [bodyOf]⟩⟩
  have hc2 : Cel (w2.alloc (.cells #[.int .u8 77, .int .u8 76, .int .u8 l.W, .int .u8 l.B] 5)) w.heap.size 1 (.int .i64 l.B) := by
    exact K2.out.alloc _
  have hb3 : Below w.heap.size w (w2.alloc (.cells #[.int .u8 77, .int .u8 76, .int .u8 l.W, .int .u8 l.B] 5)) := b_alloc hB2.out _
  clear d0 d1 d2 d3 d4 d5 e0 e1
  go_loopw [8, 31] (fun v i wr => ∃ k : Nat, k ≤ ws.length ∧ i = .int .i64 k ∧ (∃ g cap, v = .slice (some ⟨g, 0, none⟩) (4 + k * n) cap) ∧ wr.ownsRow (w.heap.size + 1) 5 1 v (4 + k * n) ((bodyOf l n (ws.take k)).map (Value.int .u8)) ∧
      Cel wr w.heap.size 1 (.int .i64 l.B) ∧ Below w.heap.size w wr) (fun _ i _ => ws.length - (intOf i).toNat)
  case atStart => exact ⟨0, Nat.zero_le _, rfl, ⟨_, _, by rw [Nat.zero_mul]⟩, by simpa using hown, hc2, hb3⟩
  case round =>
    obtain ⟨k, hk, rfl, ⟨g, c, rfl⟩, hrow, hk1, hbr⟩ := hrel
    clear hown hc2 hb3
    have HROW := hid hrow
    clear hrow
    by_cases hlt : k < ws.length
    · obtain ⟨b, off, rfl, hc⟩ := (HX.out.below hbr) k hlt
      obtain ⟨q1, q2⟩ := id hk1
      have hcB : ∀ w, Calls Try.prog 85 #[.int .i64 l.B] w fun e w' => e = .returned (.int .i64 (n : Int)) ∧ w = w' := fun w => by
        have := bytesOf_any l.B h2 w
        rwa [HN.out] at this
      have HCB := hid hcB
      clear hcB
      go_wp2_with (go_at_call 85; refine (HCB.out _).mono ?_; rintro e w1 ⟨rfl, rfl⟩)
      obtain ⟨wo, rfl⟩ : ∃ wo : World, wo = wr := ⟨_, rfl⟩
      obtain ⟨x, hxk⟩ : ∃ x, ws[k] = x := ⟨_, rfl⟩
      rw [hxk]
      have hx0 := word_nonneg hok hxk
      have hx9 := word_le hok hxk h2.2
      have HXK := hid hxk
      clear hxk hc q1 q2
      go_loopw [8, 10, 38] (fun v y i wr => ∃ j : Nat, j ≤ n ∧ i = .int .i64 j ∧ y = .int .i64 (x / 256 ^ j) ∧ (∃ g cap, v = .slice (some ⟨g, 0, none⟩) (4 + k * n + j) cap) ∧ wr.ownsRow (w.heap.size + 1) 5 1 v (4 + k * n + j) ((bodyOf l n (ws.take k) ++ bytesFrom x j).map (Value.int .u8)) ∧
          Cel wr w.heap.size 1 (.int .i64 l.B) ∧ Below w.heap.size w wr) (fun _ _ i _ => n - (intOf i).toNat)
      case atStart => exact ⟨0, Nat.zero_le _, rfl, by simp, ⟨g, c, by rw [Nat.add_zero]⟩, by simpa [bytesFrom] using HROW.out, hk1, hbr⟩
      case round =>
        obtain ⟨j, hj, rfl, rfl, ⟨g1, c1, rfl⟩, hrow1, hk2, hbr1⟩ := hrel
        have HROW1 := hid hrow1
        clear hrow1
        by_cases hjlt : j < n
        · have hq0 : 0 ≤ x / 256 ^ j ∧ x / 256 ^ j ≤ 1099511627776 := ⟨Int.ediv_nonneg hx0.1 (Int.le_of_lt (Int.pow_pos (by omega))), Int.le_trans (Int.ediv_le_self _ hx0.1) hx9⟩
          have hkn : k * n ≤ 64 * 5 := Nat.mul_le_mul (by omega) hn1.2
          have hsz := hbr1.size
          have hnx : x / 256 ^ (j + 1) = x / 256 ^ j / 256 := by rw [Int.pow_succ, Int.ediv_ediv_of_nonneg (Int.le_of_lt (Int.pow_pos (by omega)))]
          have HNX := hid hnx
          clear hnx
          go_wp2_with (at_builtin; refine wpList_append_own _ rfl _ _ 56 rfl (w.heap.size + 1) 5 iB (.int .u8 0) 1 1 Try.underlying56 hiB hzB0 hzB1 hzB2 rfl (by decide) _ _ _ rfl (HROW1.out.alloc _) ⟨wr.heap.size, 0, none⟩ 1 1 [.int .u8 (x / 256 ^ j % 256)] rfl rfl (cell_one_new _ _ _) (by intro u hu; simp at hu; subst hu; rfl) (by unfold maxLen; omega) (by omega) (by simp; have := hk2.lt; omega) ?_; intro v' w3 hown3 hg3 hnil)
          go_roundw
          case rel =>
            have hg1 := ownsRow_block HROW1.out
            refine ⟨j + 1, by omega, by go_num, by rw [HNX.out]; try rfl, ownsRow_shape rfl hown3 hnil, ?_, (hk2.alloc _).grown hg3 (fun r e => by have := hg1 r e; omega), (b_alloc hbr1 _).grown hg3 (by simp; omega) (fun r e => by have := hg1 r e; omega)⟩
            rw [bytesFrom_succ, ← List.append_assoc, List.map_append]
            exact hown3
          case measure => simp [intOf]; omega
        · obtain rfl : j = n := by omega
          go_wp2
          go_roundw
          case rel =>
            refine ⟨k + 1, by omega, by go_num, ⟨g1, c1, by rw [Nat.succ_mul, Nat.add_assoc]⟩, ?_, hk2, hbr1⟩
            have := HROW1.out
            rw [Nat.succ_mul, ← Nat.add_assoc, take_snoc hlt, bodyOf_snoc, HXK.out]
            exact this
          case measure => simp [intOf]; omega
    · obtain rfl : k = ws.length := by omega
      have hrow1 := HROW.out
      have hp := bodyOf_len l n ws
      rw [List.take_of_length_le (Nat.le_refl _)] at hrow1
      have HB := hid (bytesAt_of_owns hrow1)
      have hkn : ws.length * n ≤ 64 * 5 := Nat.mul_le_mul hle hn1.2
      have hsum := fun w hw => sum_any (some ⟨g, 0, none⟩) c (bodyOf l n ws) (bodyOf_ok l h n ws) (by show (_ : Nat) ≤ _; rw [hp]; omega) w hw
      rw [hp] at hsum
      have HSUM := hid hsum
      have hs := sumB_bd (bodyOf l n ws)
      obtain ⟨sm, hsm⟩ : ∃ sm, sumB (bodyOf l n ws) = sm := ⟨_, rfl⟩
      rw [hsm] at HSUM hs
      have HSM := hid hsm
      have HROW1 := hid hrow1
      clear hsum hsm HROW hrow1
      go_wp2_with (first
        | (go_at_call 86; refine (HSUM.out _ HB.out).mono ?_; rintro e w4 ⟨rfl, hb4⟩; have hbr4 := b_call hb4 hbr; have HR4 := hid (HROW1.out.kept (grown_under hb4) (.inr (by simp [Value.ownBlock]))))
        | (at_builtin; refine wpList_append_own _ rfl _ _ 56 rfl (w.heap.size + 1) 5 iB (.int .u8 0) 1 1 Try.underlying56 hiB hzB0 hzB1 hzB2 rfl (by decide) _ _ _ rfl (HR4.out.alloc _) ⟨w4.heap.size, 0, none⟩ 1 1 [.int .u8 ((-sm) % 256)] rfl rfl (cell_one_new _ _ _) (by intro u hu; simp at hu; subst hu; rfl) (by unfold maxLen; omega) (by omega) (by simp; have := hbr4.size; omega) ?_; intro v' w5 hown5 hg5 hnil))
      obtain ⟨g5, c5, rfl⟩ := ownsRow_shape (k := 1) rfl hown5 hnil
      have hfile : fileOf l ws = bodyOf l n ws ++ [(-sm) % 256] := by unfold fileOf; rw [HSZ.out, HSM.out]
      have hfl : (fileOf l ws).length = 4 + ws.length * n + 1 := by rw [hfile, List.length_append, hp]; rfl
      have hg1 := ownsRow_block HR4.out
      refine ⟨rfl, .tuple #[.slice (some ⟨g5, 0, none⟩) (4 + ws.length * n + 1) c5, .int .i64 0], by simp [results, Try.f40, go_sem], g5, c5, by rw [hfl], ?_, (b_alloc hbr4 _).grown hg5 (by have := hbr4.size; simp; omega) (fun r e => by have := hg1 r e; omega)⟩
      rw [hfl, hfile, List.map_append]
      exact ownsRow_low hown5 (by omega)

def lineErr (l : Ln) (ws : List Int) : Int := if l.Ok then wordsErr l ws else 7
set_option maxHeartbeats 1000000 in
theorem Write_err (l : Ln) (a : Option Addr) (cap : Nat) (ws : List Int) (hne : lineErr l ws ≠ 0) (w : World) (hx : IntsAt w a ws) :
    Calls Try.prog 40 #[l.val, .slice a ws.length cap] w (Ret w (.tuple #[.slice none 0 0, .int .i64 (lineErr l ws)])) := by
  unfold lineErr at *
  have HX := hid hx
  clear hx
  go_enter Try.func40, Try.ntmps40
  by_cases h : l.Ok
  · rw [if_pos h] at hne ⊢
    generalize he : wordsErr l ws = er at *
    have HE := hid he
    clear he
    have hne' : (er != 0) = true := by simpa using hne
    go_wp2_with (first
      | (go_at_call 25; refine (Check_ok l h _).mono ?_; rintro e w1 ⟨rfl, hb1⟩; have hB1 := hid (show Below w.heap.size w w1 by (repeat (first | assumption | exact Below.refl _ _ | refine b_alloc ?_ _ | refine Below.drew ?_ | refine b_drewN ?_ _ | refine Below.setCell ?_ (by first | omega | (simp; done) | (simp; omega)) _ | refine b_call (by assumption) ?_))); have hL1 := hid (lnAt_call (lnAt_new' l w) hb1); obtain ⟨d0, d1, d2, d3, d4, d5⟩ := hL1.out; clear hb1)
      | (go_at_call 84; refine (wordsError_any l h a cap ws _ (by exact HX.out.below (by (repeat (first | assumption | exact Below.refl _ _ | refine b_alloc ?_ _ | refine Below.drew ?_ | refine b_drewN ?_ _ | refine Below.setCell ?_ (by first | omega | (simp; done) | (simp; omega)) _ | refine b_call (by assumption) ?_))))).mono ?_; rintro e w2 ⟨rfl, hb2⟩; rw [HE.out]; have hB2 := hid (b_call hb2 hB1.out); clear hb2))
    go_ret2
    exact ⟨rfl, by (repeat (first | assumption | exact Below.refl _ _ | refine b_alloc ?_ _ | refine Below.drew ?_ | refine b_drewN ?_ _ | refine Below.setCell ?_ (by first | omega | (simp; done) | (simp; omega)) _ | refine b_call (by assumption) ?_))⟩
  · rw [if_neg h]
    go_wp2_with (go_at_call 25; refine (Check_no l h _).mono ?_; rintro e w1 ⟨rfl, hb1⟩; have hB1 := hid (show Below w.heap.size w w1 by (repeat (first | assumption | exact Below.refl _ _ | refine b_alloc ?_ _ | refine Below.drew ?_ | refine b_drewN ?_ _ | refine Below.setCell ?_ (by first | omega | (simp; done) | (simp; omega)) _ | refine b_call (by assumption) ?_))); clear hb1)
    go_ret2
    exact ⟨rfl, by (repeat (first | assumption | exact Below.refl _ _ | refine b_alloc ?_ _ | refine Below.drew ?_ | refine b_drewN ?_ _ | refine Below.setCell ?_ (by first | omega | (simp; done) | (simp; omega)) _ | refine b_call (by assumption) ?_))⟩
end Go.Proofs.Ytlocdkjnefmiaaa
