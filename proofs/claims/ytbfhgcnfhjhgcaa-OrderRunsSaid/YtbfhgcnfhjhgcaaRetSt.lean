/-
  A state handed back, with an error.
-/
import Derived.Laws.CopyOwn
import Derived.Test.YtbfhgcnfhjhgcaaMac
namespace Go.Proofs.Ytbfhgcnfhjhgcaa
open Go.RowKit
set_option linter.unusedVariables false
set_option linter.unusedSimpArgs false

def st0 : St := ⟨[], [], 0, [], 0, 0, 0, 0⟩
/-- A state, in memory, and an error. -/
def RetS (w : World) (s : St) (er : Int) (e : Ending) (w' : World) : Prop := ∃ q : Sl, e = .returned (.tuple #[stVal q s, .int .i64 er]) ∧ StAt w' q s ∧ Below w.heap.size w w'
abbrev slNone : Sl := ⟨none, none, none, 0, 0, 0⟩
theorem stAt0 (W : World) : StAt W slNone st0 := ⟨fun j hj => by simp [st0] at hj, fun j hj => by simp [st0] at hj, fun j hj => by simp [st0] at hj⟩
abbrev zeroCells : Array Value := #[.slice none 0 0, .slice none 0 0, .int .i64 0, .slice none 0 0, .int .i64 0, .int .i64 0, .int .i64 0, .int .i64 0]
theorem set8 {W : World} {b : Nat} {t : TypeId} {u0 u1 u2 u3 u4 u5 u6 u7 : Value} (h : Blk W b t #[u0, u1, u2, u3, u4, u5, u6, u7]) (v0 v1 v2 v3 v4 v5 v6 v7 : Value) :
    Blk ((((((((W.setCell ⟨b, 0, none⟩ v0).setCell ⟨b, 1, none⟩ v1).setCell ⟨b, 2, none⟩ v2).setCell ⟨b, 3, none⟩ v3).setCell ⟨b, 4, none⟩ v4).setCell ⟨b, 5, none⟩ v5).setCell ⟨b, 6, none⟩ v6).setCell ⟨b, 7, none⟩ v7) b t #[v0, v1, v2, v3, v4, v5, v6, v7] := by
  have h0 : Blk _ b t #[v0, u1, u2, u3, u4, u5, u6, u7] := h.set 0 v0
  have h1 : Blk _ b t #[v0, v1, u2, u3, u4, u5, u6, u7] := h0.set 1 v1
  have h2 : Blk _ b t #[v0, v1, v2, u3, u4, u5, u6, u7] := h1.set 2 v2
  have h3 : Blk _ b t #[v0, v1, v2, v3, u4, u5, u6, u7] := h2.set 3 v3
  have h4 : Blk _ b t #[v0, v1, v2, v3, v4, u5, u6, u7] := h3.set 4 v4
  have h5 : Blk _ b t #[v0, v1, v2, v3, v4, v5, u6, u7] := h4.set 5 v5
  have h6 : Blk _ b t #[v0, v1, v2, v3, v4, v5, v6, u7] := h5.set 6 v6
  have h7 : Blk _ b t #[v0, v1, v2, v3, v4, v5, v6, v7] := h6.set 7 v7
  exact h7
theorem below_set8 {w W : World} {B b : Nat} (h : Below B w W) (hb : B ≤ b) (v0 v1 v2 v3 v4 v5 v6 v7 : Value) :
    Below B w ((((((((W.setCell ⟨b, 0, none⟩ v0).setCell ⟨b, 1, none⟩ v1).setCell ⟨b, 2, none⟩ v2).setCell ⟨b, 3, none⟩ v3).setCell ⟨b, 4, none⟩ v4).setCell ⟨b, 5, none⟩ v5).setCell ⟨b, 6, none⟩ v6).setCell ⟨b, 7, none⟩ v7) :=
  (((((((h.setCell (p := ⟨b, 0, none⟩) hb _).setCell (p := ⟨b, 1, none⟩) hb _).setCell (p := ⟨b, 2, none⟩) hb _).setCell (p := ⟨b, 3, none⟩) hb _).setCell (p := ⟨b, 4, none⟩) hb _).setCell (p := ⟨b, 5, none⟩) hb _).setCell (p := ⟨b, 6, none⟩) hb _).setCell (p := ⟨b, 7, none⟩) hb _
theorem other8 {W : World} {b b' : Nat} {t : TypeId} {cs : Array Value} (h : Blk W b' t cs) (hne : b' ≠ b) (v0 v1 v2 v3 v4 v5 v6 v7 : Value) :
    Blk ((((((((W.setCell ⟨b, 0, none⟩ v0).setCell ⟨b, 1, none⟩ v1).setCell ⟨b, 2, none⟩ v2).setCell ⟨b, 3, none⟩ v3).setCell ⟨b, 4, none⟩ v4).setCell ⟨b, 5, none⟩ v5).setCell ⟨b, 6, none⟩ v6).setCell ⟨b, 7, none⟩ v7) b' t cs :=
  (((((((h.other hne v0).other hne v1).other hne v2).other hne v3).other hne v4).other hne v5).other hne v6).other hne v7

theorem rowsAt {W : World} {base n : Nat} {a : Option Addr} {c : Nat} {xs : List Int} (hn : xs.length = n) (h : W.ownsRow base 3 1 (.slice a n c) n (xs.map (Value.int .i64))) : IntsAt W a xs := by
  obtain ⟨a', c', e, hx⟩ := rowInts hn h
  cases e; exact hx
theorem Mac.at {W : World} {base b g : Nat} {q : Sl} {s : St} (h : Mac W base b g q s) : StAt W q s := ⟨rowsAt rfl h.own, rowsAt rfl h.tap, rowsAt rfl h.prn⟩
theorem StAt.grown {W W' : World} {q : Sl} {s : St} {r : Nat} (h : StAt W q s) (hg : W.grownBy W' (some r)) (h1 : blkOf q.a ≠ some r) (h2 : blkOf q.b ≠ some r) (h3 : blkOf q.c ≠ some r) : StAt W' q s := by
  have key : ∀ (a : Option Addr) (xs : List Int), IntsAt W a xs → blkOf a ≠ some r → IntsAt W' a xs := fun a xs hx hne j hj => by
    obtain ⟨b, off, rfl, hc⟩ := hx j hj
    exact ⟨b, off, rfl, (World.cell?_of_block (a := ⟨b, off + j, none⟩) (hg.block b (World.block_lt_of_cell? _ _ hc) hne)).trans hc⟩
  exact ⟨key _ _ h.1 h1, key _ _ h.2.1 h2, key _ _ h.2.2 h3⟩
theorem storeOk8 {W : World} {b : Nat} {old : Array Value} (h : Blk W b 37 old) (ho : old.size = 8) (a0 a1 a3 : Option Addr) (n0 c0 n1 c1 n3 c3 : Nat) (x2 x4 x5 x6 x7 : Int) :
    StoreOk Try.prog 37 W (.pointer (some ⟨b, 0, none⟩)) (.agg #[.slice a0 n0 c0, .slice a1 n1 c1, .int .i64 x2, .slice a3 n3 c3, .int .i64 x4, .int .i64 x5, .int .i64 x6, .int .i64 x7]) :=
  ⟨b, _, _, old, rfl, rfl, h, by kernel_rfl, by rw [ho]; rfl, by simp [Value.oneCell']⟩
/-- A pointer to a machine that begins with s, and no error. -/
def StartRet (w : World) (s : St) (e : Ending) (w' : World) : Prop := ∃ b g q', e = .returned (.tuple #[.pointer (some ⟨b, 0, none⟩), .int .i64 0]) ∧ Mac w' (w.heap.size + 1) b g q' s ∧ Below w.heap.size w w'
end Go.Proofs.Ytbfhgcnfhjhgcaa
