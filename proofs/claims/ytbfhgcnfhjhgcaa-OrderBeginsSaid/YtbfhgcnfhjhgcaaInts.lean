/-
  Slices of numbers: which is outside of bounds; copies.
-/
import Derived.Lib.Walk
import Derived.Lib.SliceRun
import Derived.Maps.AppendAt
import Derived.StillTailTactics
import Derived.Test.YtbfhgcnfhjhgcaaBase
namespace Go.Proofs.Ytbfhgcnfhjhgcaa
open Go.RowKit
set_option linter.unusedVariables false
set_option linter.unusedSimpArgs false

/-- The slice that begins at a holds the numbers xs. -/
def IntsAt (W : World) (a : Option Addr) (xs : List Int) : Prop := ∀ j, j < xs.length → ∃ b off, a = some ⟨b, off, none⟩ ∧ W.cell? ⟨b, off + j, none⟩ = some (.int .i64 (xs[j]?.getD 0))
theorem cell_later {W W' : World} {a : Addr} {v : Value} (hb : Below W.heap.size W W') (h : W.cell? a = some v) : W'.cell? a = some v := (hb.cell (World.block_lt_of_cell? _ _ h)).trans h
theorem IntsAt.below {W W' : World} {a : Option Addr} {xs : List Int} (h : IntsAt W a xs) (hb : Below W.heap.size W W') : IntsAt W' a xs := fun j hj => by
  obtain ⟨b, off, e, h1⟩ := h j hj
  exact ⟨b, off, e, cell_later hb h1⟩
theorem IntsAt.drewN {W : World} {a : Option Addr} {xs : List Int} (h : IntsAt W a xs) (n : Nat) : IntsAt (W.drewN n) a xs := h.below (b_drewN (Below.refl _ _) n)
abbrev Len (n : Nat) : Prop := n ≤ 17592186044416
theorem infoI : (Try.prog.info? 3).map (fun i => (i.zero, i.size, i.bytes)) = some (some (.int .i64 0), 1, 8) := by kernel_rfl
theorem below_of_grown {W W' : World} (h : W.grownBy W' none) : Below W.heap.size W W' := ⟨h.os, h.tape, h.output, h.size, fun k hk => h.block k hk (by simp)⟩
theorem grown_of_below {W W' : World} (h : Below W.heap.size W W') : W.grownBy W' none := ⟨h.os, h.tape, h.output, h.size, fun k hk _ => h.block k hk⟩
theorem Cel.grown {W W' : World} {b o : Nat} {v : Value} {row : Option Nat} (h : Cel W b o v) (hg : W.grownBy W' row) (hne : ∀ r, row = some r → b ≠ r) : Cel W' b o v := by
  have e := hg.block b h.lt (fun e => hne b e.symm rfl)
  exact ⟨(World.cell?_of_block (a := ⟨b, o, none⟩) e).trans h.1, (World.frozen?_of_block (a := ⟨b, o, none⟩) e).trans h.2⟩
theorem ownsRow_below {W W' : World} (hb : Below W.heap.size W W') {base t size : Nat} {v : Value} {n : Nat} {xs : List Value} (hv : W.ownsRow base t size v n xs) : W'.ownsRow base t size v n xs := by
  by_cases h : v.ownBlock = none
  · exact hv.kept (grown_of_below hb) (.inl h)
  · exact hv.kept (grown_of_below hb) (.inr h)
theorem ownsRow_block {W : World} {base : Nat} {e : TypeId} {size : Nat} {v : Value} {n : Nat} {xs : List Value} (h : W.ownsRow base e size v n xs) : ∀ r, v.ownBlock = some r → base ≤ r := fun r hr => (h.lt r hr).1
theorem ownsRow_low {W : World} {base base' : Nat} {e : TypeId} {size : Nat} {v : Value} {n : Nat} {xs : List Value} (h : W.ownsRow base e size v n xs) (hb : base' ≤ base) : W.ownsRow base' e size v n xs := by
  refine ⟨h.1, ?_⟩
  rcases h.2 with h | ⟨g, cap, cur, e, hg, r⟩
  · exact .inl h
  · exact .inr ⟨g, cap, cur, e, by omega, r⟩
theorem rowInts {W : World} {base n : Nat} {v : Value} {xs : List Int} (hn : xs.length = n) (h : W.ownsRow base 3 1 v n (xs.map (Value.int .i64))) : ∃ b c, v = .slice b n c ∧ IntsAt W b xs := by
  subst hn
  rcases h.2 with ⟨e, e2⟩ | ⟨g, cap, cur, e, r⟩
  · have hx : xs = [] := by simpa using e2
    subst hx
    exact ⟨none, 0, e, fun j hj => by simp at hj⟩
  · subst e
    refine ⟨_, cap, rfl, fun j hj => ⟨g, 0, rfl, ?_⟩⟩
    rw [Nat.zero_add]
    exact (h.cellAt j (by omega)).trans (by simp [hj])

/-- Block b holds these cells, and may be written. -/
def Blk (W : World) (b : Nat) (t : TypeId) (cs : Array Value) : Prop := W.heap[b]? = some (.cells cs t (0, 0))
theorem Blk.new (W : World) (cs : Array Value) (t : TypeId) : Blk (W.alloc (.cells cs t)) W.heap.size t cs := heap_alloc_new W _
theorem Blk.lt {W : World} {b : Nat} {t : TypeId} {cs : Array Value} (h : Blk W b t cs) : b < W.heap.size := (Array.getElem?_eq_some_iff.1 h).1
theorem Blk.call {W W' : World} {b : Nat} {t : TypeId} {cs : Array Value} (h : Blk W b t cs) (hb : Below W.heap.size W W') : Blk W' b t cs := (hb.block b h.lt).trans h
theorem Blk.grown {W W' : World} {b : Nat} {t : TypeId} {cs : Array Value} {row : Option Nat} (h : Blk W b t cs) (hg : W.grownBy W' row) (hne : ∀ r, row = some r → b ≠ r) : Blk W' b t cs := (hg.block b h.lt (fun e => hne b e.symm rfl)).trans h
theorem Blk.alloc {W : World} {b : Nat} {t : TypeId} {cs : Array Value} (h : Blk W b t cs) (o : Obj) : Blk (W.alloc o) b t cs := h.call (b_alloc (Below.refl _ _) o)
theorem Blk.drew {W : World} {b : Nat} {t : TypeId} {cs : Array Value} (h : Blk W b t cs) : Blk W.drew b t cs := h
theorem Blk.drewN {W : World} {b : Nat} {t : TypeId} {cs : Array Value} (h : Blk W b t cs) (n : Nat) : Blk (W.drewN n) b t cs := h
theorem Blk.set {W : World} {b : Nat} {t : TypeId} {cs : Array Value} (h : Blk W b t cs) (i : Nat) (v : Value) : Blk (W.setCell ⟨b, i, none⟩ v) b t (cs.setIfInBounds i v) := heap_setCell_same W b i cs t v h
theorem Blk.other {W : World} {b b' i : Nat} {t : TypeId} {cs : Array Value} (h : Blk W b t cs) (hne : b ≠ b') (v : Value) : Blk (W.setCell ⟨b', i, none⟩ v) b t cs := (Below.heap_setCell W ⟨b', i, none⟩ v b hne).trans h
theorem Blk.cell {W : World} {b : Nat} {t : TypeId} {cs : Array Value} (h : Blk W b t cs) (i : Nat) (v : Value) (hv : cs[i]? = some v) : W.cell? ⟨b, i, none⟩ = some v := by
  unfold World.cell?
  simp only
  rw [show W.heap[b]? = some (.cells cs t (0, 0)) from h]
  simpa using hv
theorem Blk.frozen {W : World} {b : Nat} {t : TypeId} {cs : Array Value} (h : Blk W b t cs) (i : Nat) : W.frozen? ⟨b, i, none⟩ = false := by
  unfold World.frozen?
  simp only
  rw [show W.heap[b]? = some (.cells cs t (0, 0)) from h]
  simp

/-! ### outside -/
def isOut (lo hi n : Int) : Bool := decide (n < lo) || decide (hi < n)
/-- The index of the first number that is not from lo to hi, or -1. -/
def outOf (lo hi : Int) (xs : List Int) : Int := match xs.findIdx? (isOut lo hi) with | some i => (i : Int) | none => -1
def okAll (lo hi : Int) (xs : List Int) : Prop := ∀ x ∈ xs, lo ≤ x ∧ x ≤ hi
theorem isOut_no {lo hi n : Int} : isOut lo hi n = false ↔ lo ≤ n ∧ n ≤ hi := by unfold isOut; simp
theorem outOf_none {lo hi : Int} {xs : List Int} (h : okAll lo hi xs) : outOf lo hi xs = -1 := by
  unfold outOf
  rw [List.findIdx?_eq_none_iff.2 (fun x hx => isOut_no.2 (h x hx))]
theorem outOf_some {lo hi : Int} {xs : List Int} {k : Nat} (hk : k < xs.length) (h : isOut lo hi (xs[k]?.getD 0) = true) (hb : ∀ j, j < k → isOut lo hi (xs[j]?.getD 0) = false) : outOf lo hi xs = (k : Int) := by
  unfold outOf
  have : xs.findIdx? (isOut lo hi) = some k := by
    rw [List.findIdx?_eq_some_iff_getElem]
    refine ⟨hk, by simpa [hk] using h, fun j hj => ?_⟩
    have := hb j hj
    simpa [show j < xs.length by omega] using this
  rw [this]
theorem outOf_cases (lo hi : Int) (xs : List Int) : (outOf lo hi xs = -1 ∧ okAll lo hi xs) ∨ (0 ≤ outOf lo hi xs ∧ outOf lo hi xs < xs.length ∧ ¬ okAll lo hi xs) := by
  unfold outOf
  cases h : xs.findIdx? (isOut lo hi) with
  | none => exact .inl ⟨rfl, fun x hx => isOut_no.1 (List.findIdx?_eq_none_iff.1 h x hx)⟩
  | some i =>
    obtain ⟨hi', h1, _⟩ := List.findIdx?_eq_some_iff_getElem.1 h
    refine .inr ⟨by simp only; omega, by simp only; omega, fun g => ?_⟩
    have := isOut_no.2 (g xs[i] (List.getElem_mem hi'))
    rw [this] at h1; cases h1
theorem outOf_neg {lo hi : Int} {xs : List Int} : outOf lo hi xs < 0 ↔ okAll lo hi xs := by
  rcases outOf_cases lo hi xs with ⟨h1, h2⟩ | ⟨h1, _, h2⟩
  · exact ⟨fun _ => h2, fun _ => by omega⟩
  · exact ⟨fun h => by omega, fun h => absurd h h2⟩

set_option maxHeartbeats 1000000 in
theorem outside1_any (n lo hi : Int) (bl bh : Nat) (w : World) (c1 : w.cell? ⟨bl, 0, none⟩ = some (.int .i64 lo)) (c2 : w.cell? ⟨bh, 0, none⟩ = some (.int .i64 hi)) :
    Calls Try.prog 69 #[.int .i64 n, .pointer (some ⟨bl, 0, none⟩), .pointer (some ⟨bh, 0, none⟩)] w fun e w' => e = .returned (.bool (isOut lo hi n)) ∧ w = w' := by
  rcases (by omega : n < lo ∨ (lo ≤ n ∧ hi < n) ∨ (lo ≤ n ∧ n ≤ hi)) with h | ⟨h1, h2⟩ | ⟨h1, h2⟩
  all_goals
    go_enter Try.func69, Try.ntmps69
    go_wp2
    go_ret
    exact ⟨ret_bool (by unfold isOut; simp <;> omega), rfl⟩

set_option maxRecDepth 100000 in
set_option maxHeartbeats 2000000 in
theorem indexFunc_any (lo hi : Int) (bl bh : Nat) (a : Option Addr) (cap : Nat) (xs : List Int) (hlen : Len xs.length) (w : World) (c1 : w.cell? ⟨bl, 0, none⟩ = some (.int .i64 lo)) (c2 : w.cell? ⟨bh, 0, none⟩ = some (.int .i64 hi)) (hx : IntsAt w a xs) :
    Calls Try.prog 68 #[.slice a xs.length cap, .func (.func 69) #[] #[.pointer (some ⟨bl, 0, none⟩), .pointer (some ⟨bh, 0, none⟩)]] w fun e w' => e = .returned (.int .i64 (outOf lo hi xs)) ∧ w = w' := by
  have HX := hid hx
  clear hx
  go_enter Try.func68, Try.ntmps68
  go_wp2
  go_loop [8] (fun i => ∃ k : Nat, k ≤ xs.length ∧ i = .int .i64 k ∧ ∀ j, j < k → isOut lo hi (xs[j]?.getD 0) = false) (fun i => xs.length - (intOf i).toNat)
  case atStart => exact ⟨0, Nat.zero_le _, rfl, fun j hj => by omega⟩
  case round =>
    obtain ⟨k, hk, rfl, hno⟩ := hrel
    have HNO := hid hno
    clear hno
    by_cases hlt : k < xs.length
    · obtain ⟨b, off, rfl, hc⟩ := HX.out k hlt
      obtain ⟨x, hxk⟩ : ∃ x, xs[k]?.getD 0 = x := ⟨_, rfl⟩
      rw [hxk] at hc
      have k0 : (0 : Int) ≤ (k : Int) := by omega
      have k1 : (k : Int) < (xs.length : Int) := by omega
      obtain ⟨q, hq⟩ : ∃ q, isOut lo hi x = q := ⟨_, rfl⟩
      have HQ := hid hq
      have HXK := hid hxk
      have hcl := outside1_any x lo hi bl bh w c1 c2
      rw [hq] at hcl
      have HCL := hid hcl
      clear hq hxk hcl
      cases q with
      | true =>
        go_wp2_with (go_at_call 69; refine HCL.out.mono ?_; rintro e w' ⟨rfl, rfl⟩)
        go_ret
        exact ⟨ret_int (outOf_some hlt (by rw [HXK.out, HQ.out]) HNO.out).symm, rfl⟩
      | false =>
        go_wp2_with (go_at_call 69; refine HCL.out.mono ?_; rintro e w' ⟨rfl, rfl⟩)
        go_round
        case rel => exact ⟨k + 1, by omega, by go_num, fun j hj => by
          by_cases e : j = k
          · rw [e, HXK.out, HQ.out]
          · exact HNO.out j (by omega)⟩
        case measure => simp [intOf]; omega
    · obtain rfl : k = xs.length := by omega
      go_wp2
      go_ret
      refine ⟨ret_int (outOf_none fun x hx => ?_).symm, rfl⟩
      obtain ⟨j, hj, rfl⟩ := List.mem_iff_getElem.1 hx
      have := HNO.out j hj
      rw [isOut_no] at this
      simpa [hj] using this

set_option maxRecDepth 100000 in
set_option maxHeartbeats 1000000 in
theorem outside_any (lo hi : Int) (a : Option Addr) (cap : Nat) (xs : List Int) (hlen : Len xs.length) (w : World) (hx : IntsAt w a xs) :
    Calls Try.prog 52 #[.int .i64 lo, .int .i64 hi, .slice a xs.length cap] w (Ret w (.int .i64 (outOf lo hi xs))) := by
  have c1 := (Cel.alloc (Cel.new w #[.int .i64 lo] 3 0 _ rfl) (.cells #[.int .i64 hi] 3)).1
  have c2 := (Cel.new (w.alloc (.cells #[.int .i64 lo] 3)) #[.int .i64 hi] 3 0 _ rfl).1
  simp only [World.size_alloc] at c1 c2
  have hb : Below w.heap.size w ((w.alloc (.cells #[.int .i64 lo] 3)).alloc (.cells #[.int .i64 hi] 3)) := b_alloc (b_alloc (Below.refl _ _) _) _
  have HI := hid (indexFunc_any lo hi _ _ a cap xs hlen _ c1 c2 (hx.below hb))
  have HB := hid hb
  clear c1 c2 hx hb
  go_enter Try.func52, Try.ntmps52
  go_wp2_with (go_at_call 68; refine HI.out.mono ?_; rintro e w' ⟨rfl, rfl⟩)
  go_ret
  exact ⟨rfl, HB.out⟩
end Go.Proofs.Ytbfhgcnfhjhgcaa
