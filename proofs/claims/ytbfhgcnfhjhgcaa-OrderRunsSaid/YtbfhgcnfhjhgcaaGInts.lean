/-
  Plain mathematics of layer 4: orders, words, places. No program in sight.
  Contracts of layer 4's small functions: numbers alone.
  Slices of numbers: which is outside of bounds; copies.
-/
import Derived.Test.YtbfhgcnfhjhgcaaRows
import Derived.WalkKit
import Derived.WalkSpells
import Derived.WalkLawsBesides
import Derived.Deep.RegionHeld3
import Derived.Deep.RegionWith
import Derived.Deep.QuietTactic
import Derived.BigQuiet
import Derived.Lib.Walk
import Derived.Lib.SliceRun
import Derived.Maps.AppendAt
import Derived.StillTailTactics
namespace Go.Proofs.Ytbfhgcnfhjhgcaa
set_option linter.unusedVariables false
set_option linter.unusedSimpArgs false

/-- An order, as plain numbers. -/
structure Od where
  op : Int
  fr : Int
  to : Int
  nx : Int
def Od.Ok (o : Od) : Prop := (0 ≤ o.op ∧ o.op ≤ 7) ∧ (0 ≤ o.fr ∧ o.fr ≤ 127) ∧ (0 ≤ o.to ∧ o.to ≤ 127) ∧ 0 ≤ o.nx ∧ o.nx ≤ 127
instance (o : Od) : Decidable o.Ok := by unfold Od.Ok; infer_instance
abbrev Wd (n : Int) : Prop := 0 ≤ n ∧ n ≤ 16777215
abbrev Ad (n : Int) : Prop := 0 ≤ n ∧ n ≤ 127
def dec (w : Int) : Od := ⟨w / 2097152, w / 16384 % 128, w / 128 % 128, w % 128⟩
def enc (o : Od) : Int := ((o.op * 128 + o.fr) * 128 + o.to) * 128 + o.nx
def sgn (w : Int) : Int := if 8388608 ≤ w then w - 16777216 else w
theorem dec_ok {w : Int} (h : Wd w) : (dec w).Ok := by unfold Od.Ok dec; simp only; omega
theorem enc_wd {o : Od} (h : o.Ok) : Wd (enc o) := by unfold Od.Ok at h; unfold enc Wd; omega
theorem enc_dec {w : Int} : enc (dec w) = w := by unfold enc dec; simp only; omega
theorem dec_enc {o : Od} (h : o.Ok) : dec (enc o) = o := by
  obtain ⟨op, fr, to, nx⟩ := o
  unfold Od.Ok at h
  unfold enc dec
  simp only at *
  simp only [Od.mk.injEq]
  omega
theorem sgn_bd {w : Int} (h : Wd w) : -8388608 ≤ sgn w ∧ sgn w ≤ 8388607 := by unfold sgn; split <;> omega
theorem sgn_mod {w : Int} : (sgn w - w) % 16777216 = 0 := by unfold sgn; split <;> omega

/-- The least minor cycle from one on in which the word at an address comes by. -/
def nb (c a : Int) : Int := c + (a - c % 16 + 16) % 16
/-- The least minor cycle after one in which the word at an address comes by. -/
def aft (c a : Int) : Int := nb (c + 1) a
theorem nb_spec (c a : Int) (h : 0 ≤ a) : c ≤ nb c a ∧ nb c a < c + 16 ∧ nb c a % 16 = a % 16 := by unfold nb; omega
theorem aft_spec (c a : Int) (h : 0 ≤ a) : c < aft c a ∧ aft c a ≤ c + 16 ∧ aft c a % 16 = a % 16 := by unfold aft nb; omega
theorem aft_unique {c a t : Int} (h : 0 ≤ a) (h1 : c < t) (h2 : t ≤ c + 16) (h3 : t % 16 = a % 16) : t = aft c a := by unfold aft nb; omega

/-! ### bits -/
open Go
theorem wrap_small {n : Int} (h0 : -9223372036854775808 ≤ n) (h1 : n ≤ 9223372036854775807) : IntKind.i64.wrap n = n := IntWalk.i64_in _ (by omega)
theorem and_mask (x : Int) (b : Nat) (hb : b ≤ 62) : bits BinOp.and IntKind.i64 x (2 ^ b - 1) = x % 2 ^ b := by
  have hp : (0 : Nat) < 2 ^ b := Nat.pow_pos (by omega)
  have hle : (2 : Nat) ^ b ≤ 2 ^ 62 := Nat.pow_le_pow_right (by omega) hb
  have hpi : ((2 : Int) ^ b) = ((2 ^ b : Nat) : Int) := by simp
  have hd : (2 : Nat) ^ 64 = 2 ^ b * 2 ^ (64 - b) := by rw [← Nat.pow_add]; congr 1; omega
  unfold bits
  have e1 : (BitVec.ofInt 64 x &&& BitVec.ofInt 64 (2 ^ b - 1)).toNat = (x % 2 ^ b).toNat := by
    rw [BitVec.toNat_and, BitVec.toNat_ofInt, BitVec.toNat_ofInt]
    have e2 : ((2 ^ b - 1 : Int) % ((2 ^ 64 : Nat) : Int)).toNat = 2 ^ b - 1 := by
      rw [hpi]
      have : (((2 ^ b : Nat) : Int) - 1) % ((2 ^ 64 : Nat) : Int) = ((2 ^ b : Nat) : Int) - 1 := Int.emod_eq_of_lt (by omega) (by omega)
      rw [this]; omega
    rw [e2, Nat.and_two_pow_sub_one_eq_mod]
    have h0 := Int.emod_nonneg x (show ((2 ^ 64 : Nat) : Int) ≠ 0 by omega)
    have : (((x % ((2 ^ 64 : Nat) : Int)).toNat % 2 ^ b : Nat) : Int) = x % ((2 ^ b : Nat) : Int) := by
      rw [Int.natCast_emod, Int.toNat_of_nonneg h0]; exact Int.emod_emod_of_dvd x (Int.natCast_dvd_natCast.2 ⟨2 ^ (64 - b), hd⟩)
    rw [hpi]
    omega
  show IntKind.i64.wrap (((BitVec.ofInt 64 x &&& BitVec.ofInt 64 (2 ^ b - 1)).toNat : Nat) : Int) = _
  rw [e1]
  have h0 := Int.emod_nonneg x (show (2 : Int) ^ b ≠ 0 by rw [hpi]; omega)
  have h1 := Int.emod_lt_of_pos x (show (0 : Int) < 2 ^ b by rw [hpi]; omega)
  rw [Int.toNat_of_nonneg h0]
  exact wrap_small (by omega) (by rw [hpi] at h1; omega)
theorem or_join (h l : Nat) (b : Nat) (hh : h * 2 ^ b < 2 ^ 62) (hl : l < 2 ^ b) (hb : b ≤ 62) : bits BinOp.or IntKind.i64 ((h : Int) * 2 ^ b) (l : Int) = (h : Int) * 2 ^ b + (l : Int) := by
  have hpi : ((2 : Int) ^ b) = ((2 ^ b : Nat) : Int) := by simp
  have hle : (2 : Nat) ^ b ≤ 2 ^ 62 := Nat.pow_le_pow_right (by omega) hb
  unfold bits
  have e1 : (BitVec.ofInt 64 ((h : Int) * 2 ^ b) ||| BitVec.ofInt 64 (l : Int)).toNat = h * 2 ^ b + l := by
    rw [BitVec.toNat_or, BitVec.toNat_ofInt, BitVec.toNat_ofInt, hpi]
    have a1 : ((h : Int) * ((2 ^ b : Nat) : Int) % ((2 ^ 64 : Nat) : Int)).toNat = h * 2 ^ b := by
      rw [← Int.natCast_mul, Int.emod_eq_of_lt (by omega) (by omega)]; omega
    have a2 : ((l : Int) % ((2 ^ 64 : Nat) : Int)).toNat = l := by
      rw [Int.emod_eq_of_lt (by omega) (by omega)]; omega
    rw [a1, a2, ← Nat.shiftLeft_eq, Nat.shiftLeft_add_eq_or_of_lt hl]
  show IntKind.i64.wrap (((BitVec.ofInt 64 ((h : Int) * 2 ^ b) ||| BitVec.ofInt 64 (l : Int)).toNat : Nat) : Int) = _
  rw [e1, Int.natCast_add, Int.natCast_mul, ← hpi]
  refine wrap_small ?_ ?_
  · have : (0 : Int) ≤ (h : Int) * 2 ^ b := Int.mul_nonneg (by omega) (by rw [hpi]; omega)
    omega
  · rw [hpi, ← Int.natCast_mul]; omega
end Go.Proofs.Ytbfhgcnfhjhgcaa
namespace Go.Proofs.Ytbfhgcnfhjhgcaa
open Go.RowKit
set_option linter.unusedVariables false
set_option linter.unusedSimpArgs false

theorem hid {p : Prop} (h : p) : Hid p := h
theorem bcell {W w1 : World} (hb : Below W.heap.size W w1) : (∀ b o, b < W.heap.size → w1.cell? ⟨b, o, none⟩ = W.cell? ⟨b, o, none⟩) ∧ (∀ b o, b < W.heap.size → w1.frozen? ⟨b, o, none⟩ = W.frozen? ⟨b, o, none⟩) :=
  ⟨fun b o h => hb.cell (p := ⟨b, o, none⟩) h, fun b o h => hb.frozen (p := ⟨b, o, none⟩) h⟩
theorem b_alloc {w W : World} (h : Below w.heap.size w W) (o : Obj) : Below w.heap.size w (W.alloc o) := h.alloc h.size o
theorem b_drewN {B : Nat} {w W : World} (h : Below B w W) (n : Nat) : Below B w (W.drewN n) := ⟨h.os, h.tape, h.output, h.size, h.block⟩
theorem b_call {w W w' : World} (hb : Below W.heap.size W w') (h : Below w.heap.size w W) : Below w.heap.size w w' := h.trans (hb.mono h.size)
/-- A cell that may be read and written. -/
def Cel (W : World) (b o : Nat) (v : Value) : Prop := W.cell? ⟨b, o, none⟩ = some v ∧ W.frozen? ⟨b, o, none⟩ = false
theorem Cel.lt {W : World} {b o : Nat} {v : Value} (h : Cel W b o v) : b < W.heap.size := World.block_lt_of_cell? W _ h.1
theorem Cel.alloc {W : World} {b o : Nat} {v : Value} (h : Cel W b o v) (x : Obj) : Cel (W.alloc x) b o v :=
  ⟨(World.cell?_alloc_past x b o h.lt).trans h.1, (World.frozen?_alloc_old W x ⟨b, o, none⟩ (Nat.ne_of_lt h.lt)).trans h.2⟩
theorem Cel.call {W W' : World} {b o : Nat} {v : Value} (h : Cel W b o v) (hb : Below W.heap.size W W') : Cel W' b o v :=
  ⟨(hb.cell (p := ⟨b, o, none⟩) h.lt).trans h.1, (hb.frozen (p := ⟨b, o, none⟩) h.lt).trans h.2⟩
theorem Cel.below {B : Nat} {W W' : World} {b o : Nat} {v : Value} (h : Cel W b o v) (hb : Below B W W') (hB : b < B) : Cel W' b o v :=
  ⟨(hb.cell (p := ⟨b, o, none⟩) hB).trans h.1, (hb.frozen (p := ⟨b, o, none⟩) hB).trans h.2⟩
theorem Cel.new (W : World) (cs : Array Value) (t : TypeId) (o : Nat) (v : Value) (h : cs[o]? = some v) : Cel (W.alloc (.cells cs t)) W.heap.size o v :=
  ⟨by simp [go_sem, h], by simp [go_sem]⟩
/-- The call returns v; whatever lay before it lies as it lay. -/
def Ret (w : World) (v : Value) (e : Ending) (w' : World) : Prop := e = .returned v ∧ Below w.heap.size w w'
theorem Ret.mk {w w' : World} {v : Value} {e : Ending} (h : e = .returned v) (hb : Below w.heap.size w w') : Ret w v e w' := ⟨h, hb⟩
theorem ret_bool {a b : Bool} (h : a = b) : Ending.returned (.bool a) = .returned (.bool b) := by rw [h]
theorem ret_int {k : IntKind} {a b : Int} (h : a = b) : Ending.returned (.int k a) = .returned (.int k b) := by rw [h]
abbrev Od.val (o : Od) : Value := .agg #[.int .i64 o.op, .int .i64 o.fr, .int .i64 o.to, .int .i64 o.nx]

/-! ### places -/
set_option maxHeartbeats 400000 in
theorem place_any (n : Int) (hn : 0 ≤ n) (w : World) :
    Calls Try.prog 54 #[.int .i64 n] w fun e w' => e = .returned (.int .i64 (n % 16)) ∧ w = w' := by
  have h1 : n.tmod 16 = n % 16 := Int.tmod_eq_emod_of_nonneg hn
  go_enter Try.func54, Try.ntmps54
  go_wp2
  go_ret
  exact ⟨ret_int (by first | rfl | (simp [h1]; done) | omega), rfl⟩
set_option maxHeartbeats 400000 in
theorem notBefore_any (c a : Int) (hc : 0 ≤ c ∧ c ≤ 1000000000000) (ha : 0 ≤ a ∧ a ≤ 1000000000000) (w : World) :
    Calls Try.prog 59 #[.int .i64 c, .int .i64 a] w fun e w' => e = .returned (.int .i64 (nb c a)) ∧ w = w' := by
  have h1 := Int.emod_nonneg c (show (16 : Int) ≠ 0 by omega)
  have h2 := Int.emod_lt_of_pos c (show (0 : Int) < 16 by omega)
  go_enter Try.func59, Try.ntmps59
  go_wp2_with (go_at_call 54; refine (place_any _ (by omega) _).mono ?_; rintro e w' ⟨rfl, rfl⟩)
  go_ret
  exact ⟨ret_int (by unfold nb; first | rfl | omega), rfl⟩
set_option maxHeartbeats 400000 in
theorem after_any (c a : Int) (hc : 0 ≤ c ∧ c ≤ 100000000000) (ha : 0 ≤ a ∧ a ≤ 1000000000000) (w : World) :
    Calls Try.prog 78 #[.int .i64 c, .int .i64 a] w fun e w' => e = .returned (.int .i64 (aft c a)) ∧ w = w' := by
  go_enter Try.func78, Try.ntmps78
  go_wp2_with (go_at_call 59; refine (notBefore_any _ _ (by omega) (by omega) _).mono ?_; rintro e w' ⟨rfl, rfl⟩)
  go_ret
  exact ⟨rfl, rfl⟩

/-! ### words -/
set_option maxHeartbeats 400000 in
theorem signed_any (x : Int) (hx : -1000000000000 ≤ x ∧ x ≤ 1000000000000) (w : World) :
    Calls Try.prog 46 #[.int .i64 x] w fun e w' => e = .returned (.int .i64 (sgn x)) ∧ w = w' := by
  go_enter Try.func46, Try.ntmps46
  go_wp2
  all_goals (go_ret; exact ⟨ret_int (by unfold sgn; split <;> first | rfl | omega), rfl⟩)
set_option maxHeartbeats 400000 in
theorem Sign_any (x : Int) (hx : -1000000000000 ≤ x ∧ x ≤ 1000000000000) (w : World) :
    Calls Try.prog 47 #[.int .i64 x] w fun e w' => e = .returned (.int .i64 (sgn x)) ∧ w = w' := by
  go_enter Try.func47, Try.ntmps47
  go_wp2
  all_goals (go_ret; exact ⟨ret_int (by unfold sgn; split <;> first | rfl | omega), rfl⟩)
set_option maxHeartbeats 400000 in
theorem parted_any (x : Int) (b : Nat) (hb : b = 7 ∨ b = 24) (w : World) :
    Calls Try.prog 65 #[.int .i64 x, .int .i64 (b : Int)] w fun e w' => e = .returned (.tuple #[.int .i64 (x / 2 ^ b), .int .i64 (x % 2 ^ b)]) ∧ ∃ n, w' = w.drewN n := by
  have h1 := and_mask x b (by omega)
  rcases hb with rfl | rfl
  · simp at h1
    go_enter Try.func65, Try.ntmps65
    go_wp2
    go_quiet (fail)
    go_wp2
    go_ret2
    exact ⟨by simp [h1], _, rfl⟩
  · simp at h1
    go_enter Try.func65, Try.ntmps65
    go_wp2
    go_quiet (fail)
    go_wp2
    go_ret2
    exact ⟨by simp [h1], _, rfl⟩
set_option maxHeartbeats 400000 in
theorem joined_any (h l : Int) (hh : 0 ≤ h ∧ h ≤ 1000000000) (hl : 0 ≤ l ∧ l ≤ 127) (w : World) :
    Calls Try.prog 41 #[.int .i64 h, .int .i64 l, .int .i64 7] w fun e w' => e = .returned (.int .i64 (h * 128 + l)) ∧ w = w' := by
  obtain ⟨n, rfl⟩ : ∃ n : Nat, h = (n : Int) := ⟨h.toNat, by omega⟩
  obtain ⟨m, rfl⟩ : ∃ m : Nat, l = (m : Int) := ⟨l.toNat, by omega⟩
  have h1 := or_join n m 7 (by omega) (by omega) (by omega)
  simp at h1
  have h2 : IntKind.i64.wrap ((n : Int) * 128) = (n : Int) * 128 := IntWalk.i64_in _ (by omega)
  go_enter Try.func41, Try.ntmps41
  go_wp2
  go_ret
  exact ⟨by simp [h1, h2], rfl⟩
end Go.Proofs.Ytbfhgcnfhjhgcaa
namespace Go.Proofs.Ytbfhgcnfhjhgcaa
open Go.RowKit
set_option linter.unusedVariables false
set_option linter.unusedSimpArgs false

/-- The slice that begins at a holds the numbers xs. -/
def IntsAt (W : World) (a : Option Addr) (xs : List Int) : Prop := ∀ j, j < xs.length → ∃ b off, a = some ⟨b, off, none⟩ ∧ W.cell? ⟨b, off + j, none⟩ = some (.int .i64 (xs[j]?.getD 0))
theorem cell_later {W W' : World} {a : Addr} {v : Value} (hb : Below W.heap.size W W') (h : W.cell? a = some v) : W'.cell? a = some v := (hb.cell (World.block_lt_of_cell? _ _ h)).trans h
theorem IntsAt.below {W W' : World} {a : Option Addr} {xs : List Int} (h : IntsAt W a xs) (hb : Below W.heap.size W W') : IntsAt W' a xs := fun j hj => by
  obtain ⟨b, off, e, h1⟩ := h j hj
  exact ⟨b, off, e, cell_later hb h1⟩
theorem IntsAt.drewN {W : World} {a : Option Addr} {xs : List Int} (h : IntsAt W a xs) (n : Nat) : IntsAt (W.drewN n) a xs := h.below (b_drewN (Below.refl _ _) n)
abbrev Len (n : Nat) : Prop := n ≤ 17592186044416
theorem infoI : (Try.prog.info? 3).map (fun i => (i.zero, i.size, i.bytes)) = some (some (.int .i64 0), 1, 8) := by kernel_rfl
theorem below_of_grown {W W' : World} (h : W.grownBy W' none) : Below W.heap.size W W' := ⟨h.os, h.tape, h.output, h.size, fun k hk => h.block k hk (by simp)⟩
theorem grown_of_below {W W' : World} (h : Below W.heap.size W W') : W.grownBy W' none := ⟨h.os, h.tape, h.output, h.size, fun k hk _ => h.block k hk⟩
theorem Cel.grown {W W' : World} {b o : Nat} {v : Value} {row : Option Nat} (h : Cel W b o v) (hg : W.grownBy W' row) (hne : ∀ r, row = some r → b ≠ r) : Cel W' b o v := by
  have e := hg.block b h.lt (fun e => hne b e.symm rfl)
  exact ⟨(World.cell?_of_block (a := ⟨b, o, none⟩) e).trans h.1, (World.frozen?_of_block (a := ⟨b, o, none⟩) e).trans h.2⟩
theorem ownsRow_below {W W' : World} (hb : Below W.heap.size W W') {base t size : Nat} {v : Value} {n : Nat} {xs : List Value} (hv : W.ownsRow base t size v n xs) : W'.ownsRow base t size v n xs := by
  by_cases h : v.ownBlock = none
  · exact hv.kept (grown_of_below hb) (.inl h)
  · exact hv.kept (grown_of_below hb) (.inr h)
theorem ownsRow_block {W : World} {base : Nat} {e : TypeId} {size : Nat} {v : Value} {n : Nat} {xs : List Value} (h : W.ownsRow base e size v n xs) : ∀ r, v.ownBlock = some r → base ≤ r := fun r hr => (h.lt r hr).1
theorem ownsRow_low {W : World} {base base' : Nat} {e : TypeId} {size : Nat} {v : Value} {n : Nat} {xs : List Value} (h : W.ownsRow base e size v n xs) (hb : base' ≤ base) : W.ownsRow base' e size v n xs := by
  refine ⟨h.1, ?_⟩
  rcases h.2 with h | ⟨g, cap, cur, e, hg, r⟩
  · exact .inl h
  · exact .inr ⟨g, cap, cur, e, by omega, r⟩
theorem rowInts {W : World} {base n : Nat} {v : Value} {xs : List Int} (hn : xs.length = n) (h : W.ownsRow base 3 1 v n (xs.map (Value.int .i64))) : ∃ b c, v = .slice b n c ∧ IntsAt W b xs := by
  subst hn
  rcases h.2 with ⟨e, e2⟩ | ⟨g, cap, cur, e, r⟩
  · have hx : xs = [] := by simpa using e2
    subst hx
    exact ⟨none, 0, e, fun j hj => by simp at hj⟩
  · subst e
    refine ⟨_, cap, rfl, fun j hj => ⟨g, 0, rfl, ?_⟩⟩
    rw [Nat.zero_add]
    exact (h.cellAt j (by omega)).trans (by simp [hj])

/-- Block b holds these cells, and may be written. -/
def Blk (W : World) (b : Nat) (t : TypeId) (cs : Array Value) : Prop := W.heap[b]? = some (.cells cs t (0, 0))
theorem Blk.new (W : World) (cs : Array Value) (t : TypeId) : Blk (W.alloc (.cells cs t)) W.heap.size t cs := heap_alloc_new W _
theorem Blk.lt {W : World} {b : Nat} {t : TypeId} {cs : Array Value} (h : Blk W b t cs) : b < W.heap.size := (Array.getElem?_eq_some_iff.1 h).1
theorem Blk.call {W W' : World} {b : Nat} {t : TypeId} {cs : Array Value} (h : Blk W b t cs) (hb : Below W.heap.size W W') : Blk W' b t cs := (hb.block b h.lt).trans h
theorem Blk.grown {W W' : World} {b : Nat} {t : TypeId} {cs : Array Value} {row : Option Nat} (h : Blk W b t cs) (hg : W.grownBy W' row) (hne : ∀ r, row = some r → b ≠ r) : Blk W' b t cs := (hg.block b h.lt (fun e => hne b e.symm rfl)).trans h
theorem Blk.alloc {W : World} {b : Nat} {t : TypeId} {cs : Array Value} (h : Blk W b t cs) (o : Obj) : Blk (W.alloc o) b t cs := h.call (b_alloc (Below.refl _ _) o)
theorem Blk.drew {W : World} {b : Nat} {t : TypeId} {cs : Array Value} (h : Blk W b t cs) : Blk W.drew b t cs := h
theorem Blk.drewN {W : World} {b : Nat} {t : TypeId} {cs : Array Value} (h : Blk W b t cs) (n : Nat) : Blk (W.drewN n) b t cs := h
theorem Blk.set {W : World} {b : Nat} {t : TypeId} {cs : Array Value} (h : Blk W b t cs) (i : Nat) (v : Value) : Blk (W.setCell ⟨b, i, none⟩ v) b t (cs.setIfInBounds i v) := heap_setCell_same W b i cs t v h
theorem Blk.other {W : World} {b b' i : Nat} {t : TypeId} {cs : Array Value} (h : Blk W b t cs) (hne : b ≠ b') (v : Value) : Blk (W.setCell ⟨b', i, none⟩ v) b t cs := (Below.heap_setCell W ⟨b', i, none⟩ v b hne).trans h
theorem Blk.cell {W : World} {b : Nat} {t : TypeId} {cs : Array Value} (h : Blk W b t cs) (i : Nat) (v : Value) (hv : cs[i]? = some v) : W.cell? ⟨b, i, none⟩ = some v := by
  unfold World.cell?
  simp only
  rw [show W.heap[b]? = some (.cells cs t (0, 0)) from h]
  simpa using hv
theorem Blk.frozen {W : World} {b : Nat} {t : TypeId} {cs : Array Value} (h : Blk W b t cs) (i : Nat) : W.frozen? ⟨b, i, none⟩ = false := by
  unfold World.frozen?
  simp only
  rw [show W.heap[b]? = some (.cells cs t (0, 0)) from h]
  simp

/-! ### outside -/
def isOut (lo hi n : Int) : Bool := decide (n < lo) || decide (hi < n)
/-- The index of the first number that is not from lo to hi, or -1. -/
def outOf (lo hi : Int) (xs : List Int) : Int := match xs.findIdx? (isOut lo hi) with | some i => (i : Int) | none => -1
def okAll (lo hi : Int) (xs : List Int) : Prop := ∀ x ∈ xs, lo ≤ x ∧ x ≤ hi
theorem isOut_no {lo hi n : Int} : isOut lo hi n = false ↔ lo ≤ n ∧ n ≤ hi := by unfold isOut; simp
theorem outOf_none {lo hi : Int} {xs : List Int} (h : okAll lo hi xs) : outOf lo hi xs = -1 := by
  unfold outOf
  rw [List.findIdx?_eq_none_iff.2 (fun x hx => isOut_no.2 (h x hx))]
theorem outOf_some {lo hi : Int} {xs : List Int} {k : Nat} (hk : k < xs.length) (h : isOut lo hi (xs[k]?.getD 0) = true) (hb : ∀ j, j < k → isOut lo hi (xs[j]?.getD 0) = false) : outOf lo hi xs = (k : Int) := by
  unfold outOf
  have : xs.findIdx? (isOut lo hi) = some k := by
    rw [List.findIdx?_eq_some_iff_getElem]
    refine ⟨hk, by simpa [hk] using h, fun j hj => ?_⟩
    have := hb j hj
    simpa [show j < xs.length by omega] using this
  rw [this]
theorem outOf_cases (lo hi : Int) (xs : List Int) : (outOf lo hi xs = -1 ∧ okAll lo hi xs) ∨ (0 ≤ outOf lo hi xs ∧ outOf lo hi xs < xs.length ∧ ¬ okAll lo hi xs) := by
  unfold outOf
  cases h : xs.findIdx? (isOut lo hi) with
  | none => exact .inl ⟨rfl, fun x hx => isOut_no.1 (List.findIdx?_eq_none_iff.1 h x hx)⟩
  | some i =>
    obtain ⟨hi', h1, _⟩ := List.findIdx?_eq_some_iff_getElem.1 h
    refine .inr ⟨by simp only; omega, by simp only; omega, fun g => ?_⟩
    have := isOut_no.2 (g xs[i] (List.getElem_mem hi'))
    rw [this] at h1; cases h1
theorem outOf_neg {lo hi : Int} {xs : List Int} : outOf lo hi xs < 0 ↔ okAll lo hi xs := by
  rcases outOf_cases lo hi xs with ⟨h1, h2⟩ | ⟨h1, _, h2⟩
  · exact ⟨fun _ => h2, fun _ => by omega⟩
  · exact ⟨fun h => by omega, fun h => absurd h h2⟩

set_option maxHeartbeats 1000000 in
theorem outside1_any (n lo hi : Int) (bl bh : Nat) (w : World) (c1 : w.cell? ⟨bl, 0, none⟩ = some (.int .i64 lo)) (c2 : w.cell? ⟨bh, 0, none⟩ = some (.int .i64 hi)) :
    Calls Try.prog 69 #[.int .i64 n, .pointer (some ⟨bl, 0, none⟩), .pointer (some ⟨bh, 0, none⟩)] w fun e w' => e = .returned (.bool (isOut lo hi n)) ∧ w = w' := by
  rcases (by omega : n < lo ∨ (lo ≤ n ∧ hi < n) ∨ (lo ≤ n ∧ n ≤ hi)) with h | ⟨h1, h2⟩ | ⟨h1, h2⟩
  all_goals
    go_enter Try.func69, Try.ntmps69
    go_wp2
    go_ret
    exact ⟨ret_bool (by unfold isOut; simp <;> omega), rfl⟩

set_option maxRecDepth 100000 in
set_option maxHeartbeats 2000000 in
theorem indexFunc_any (lo hi : Int) (bl bh : Nat) (a : Option Addr) (cap : Nat) (xs : List Int) (hlen : Len xs.length) (w : World) (c1 : w.cell? ⟨bl, 0, none⟩ = some (.int .i64 lo)) (c2 : w.cell? ⟨bh, 0, none⟩ = some (.int .i64 hi)) (hx : IntsAt w a xs) :
    Calls Try.prog 68 #[.slice a xs.length cap, .func (.func 69) #[] #[.pointer (some ⟨bl, 0, none⟩), .pointer (some ⟨bh, 0, none⟩)]] w fun e w' => e = .returned (.int .i64 (outOf lo hi xs)) ∧ w = w' := by
  have HX := hid hx
  clear hx
  go_enter Try.func68, Try.ntmps68
  go_wp2
  go_loop [8] (fun i => ∃ k : Nat, k ≤ xs.length ∧ i = .int .i64 k ∧ ∀ j, j < k → isOut lo hi (xs[j]?.getD 0) = false) (fun i => xs.length - (intOf i).toNat)
  case atStart => exact ⟨0, Nat.zero_le _, rfl, fun j hj => by omega⟩
  case round =>
    obtain ⟨k, hk, rfl, hno⟩ := hrel
    have HNO := hid hno
    clear hno
    by_cases hlt : k < xs.length
    · obtain ⟨b, off, rfl, hc⟩ := HX.out k hlt
      obtain ⟨x, hxk⟩ : ∃ x, xs[k]?.getD 0 = x := ⟨_, rfl⟩
      rw [hxk] at hc
      have k0 : (0 : Int) ≤ (k : Int) := by omega
      have k1 : (k : Int) < (xs.length : Int) := by omega
      obtain ⟨q, hq⟩ : ∃ q, isOut lo hi x = q := ⟨_, rfl⟩
      have HQ := hid hq
      have HXK := hid hxk
      have hcl := outside1_any x lo hi bl bh w c1 c2
      rw [hq] at hcl
      have HCL := hid hcl
      clear hq hxk hcl
      cases q with
      | true =>
        go_wp2_with (go_at_call 69; refine HCL.out.mono ?_; rintro e w' ⟨rfl, rfl⟩)
        go_ret
        exact ⟨ret_int (outOf_some hlt (by rw [HXK.out, HQ.out]) HNO.out).symm, rfl⟩
      | false =>
        go_wp2_with (go_at_call 69; refine HCL.out.mono ?_; rintro e w' ⟨rfl, rfl⟩)
        go_round
        case rel => exact ⟨k + 1, by omega, by go_num, fun j hj => by
          by_cases e : j = k
          · rw [e, HXK.out, HQ.out]
          · exact HNO.out j (by omega)⟩
        case measure => simp [intOf]; omega
    · obtain rfl : k = xs.length := by omega
      go_wp2
      go_ret
      refine ⟨ret_int (outOf_none fun x hx => ?_).symm, rfl⟩
      obtain ⟨j, hj, rfl⟩ := List.mem_iff_getElem.1 hx
      have := HNO.out j hj
      rw [isOut_no] at this
      simpa [hj] using this

set_option maxRecDepth 100000 in
set_option maxHeartbeats 1000000 in
theorem outside_any (lo hi : Int) (a : Option Addr) (cap : Nat) (xs : List Int) (hlen : Len xs.length) (w : World) (hx : IntsAt w a xs) :
    Calls Try.prog 52 #[.int .i64 lo, .int .i64 hi, .slice a xs.length cap] w (Ret w (.int .i64 (outOf lo hi xs))) := by
  have c1 := (Cel.alloc (Cel.new w #[.int .i64 lo] 3 0 _ rfl) (.cells #[.int .i64 hi] 3)).1
  have c2 := (Cel.new (w.alloc (.cells #[.int .i64 lo] 3)) #[.int .i64 hi] 3 0 _ rfl).1
  simp only [World.size_alloc] at c1 c2
  have hb : Below w.heap.size w ((w.alloc (.cells #[.int .i64 lo] 3)).alloc (.cells #[.int .i64 hi] 3)) := b_alloc (b_alloc (Below.refl _ _) _) _
  have HI := hid (indexFunc_any lo hi _ _ a cap xs hlen _ c1 c2 (hx.below hb))
  have HB := hid hb
  clear c1 c2 hx hb
  go_enter Try.func52, Try.ntmps52
  go_wp2_with (go_at_call 68; refine HI.out.mono ?_; rintro e w' ⟨rfl, rfl⟩)
  go_ret
  exact ⟨rfl, HB.out⟩
end Go.Proofs.Ytbfhgcnfhjhgcaa
