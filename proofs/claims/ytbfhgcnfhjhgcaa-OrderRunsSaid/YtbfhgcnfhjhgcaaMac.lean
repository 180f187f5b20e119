/-
  The machine in memory.
-/
import Derived.Laws.CopyOwn
import Derived.Test.YtbfhgcnfhjhgcaaMach
namespace Go.Proofs.Ytbfhgcnfhjhgcaa
open Go.RowKit
set_option linter.unusedVariables false
set_option linter.unusedSimpArgs false

/-- The block of a slice. -/
def blkOf (a : Option Addr) : Option Nat := a.map (·.block)
theorem own_slice (a : Option Addr) (n c : Nat) : (Value.slice a n c).ownBlock = blkOf a := by cases a <;> rfl
/-- A machine lies in block b, its store in block g; all that it owns lies from base on. -/
structure Mac (W : World) (base b g : Nat) (q : Sl) (s : St) : Prop where
  blk : Blk W b 83 (stCells q s)
  qa : q.a = some ⟨g, 0, none⟩
  own : W.ownsRow base 3 1 (.slice q.a s.store.length q.ca) s.store.length (s.store.map (Value.int .i64))
  tap : W.ownsRow base 3 1 (.slice q.b s.tape.length q.cb) s.tape.length (s.tape.map (Value.int .i64))
  prn : W.ownsRow base 3 1 (.slice q.c s.printed.length q.cc) s.printed.length (s.printed.map (Value.int .i64))
  hb : base ≤ b
  bg : b ≠ g
  nb : blkOf q.b ≠ some b
  ng : blkOf q.b ≠ some g
  pb : blkOf q.c ≠ some b
  pg : blkOf q.c ≠ some g
  pn : ∀ r, blkOf q.c = some r → blkOf q.b ≠ some r
theorem Mac.below {W W' : World} {base b g : Nat} {q : Sl} {s : St} (h : Mac W base b g q s) (hb : Below W.heap.size W W') : Mac W' base b g q s :=
  ⟨h.blk.call hb, h.qa, ownsRow_below hb h.own, ownsRow_below hb h.tap, ownsRow_below hb h.prn, h.hb, h.bg, h.nb, h.ng, h.pb, h.pg, h.pn⟩
theorem Mac.cell {W : World} {base b g : Nat} {q : Sl} {s : St} (h : Mac W base b g q s) {i : Int} (h0 : 0 ≤ i) (h1 : i < s.store.length) : W.cell? ⟨g, i.toNat, none⟩ = some (.int .i64 (getI s.store i)) := by
  have ho := h.own
  rw [h.qa] at ho
  have hc := ho.cellAt i.toNat (by omega)
  rw [hc, getI, List.getElem?_map]
  have : i.toNat < s.store.length := by omega
  simp [this]
theorem Mac.glt {W : World} {base b g : Nat} {q : Sl} {s : St} (h : Mac W base b g q s) : base ≤ g ∧ g < W.heap.size := h.own.lt g (by rw [h.qa]; rfl)
theorem Mac.blt {W : World} {base b g : Nat} {q : Sl} {s : St} (h : Mac W base b g q s) : b < W.heap.size := World.block_lt_of_cell? W ⟨b, 0, none⟩ (h.blk.cell 0 _ rfl)
theorem Mac.frz {W : World} {base b g : Nat} {q : Sl} {s : St} (h : Mac W base b g q s) (i : Nat) : W.frozen? ⟨g, i, none⟩ = false := by
  have ho := h.own
  rw [h.qa] at ho
  exact ho.frozenAt i

theorem set7 {W : World} {b : Nat} {t : TypeId} {u0 u1 u2 u3 u4 u5 u6 : Value} (h : Blk W b t #[u0, u1, u2, u3, u4, u5, u6]) (v0 v1 v2 v3 v4 v5 v6 : Value) :
    Blk (((((((W.setCell ⟨b, 0, none⟩ v0).setCell ⟨b, 1, none⟩ v1).setCell ⟨b, 2, none⟩ v2).setCell ⟨b, 3, none⟩ v3).setCell ⟨b, 4, none⟩ v4).setCell ⟨b, 5, none⟩ v5).setCell ⟨b, 6, none⟩ v6) b t #[v0, v1, v2, v3, v4, v5, v6] := by
  have h0 : Blk _ b t #[v0, u1, u2, u3, u4, u5, u6] := h.set 0 v0
  have h1 : Blk _ b t #[v0, v1, u2, u3, u4, u5, u6] := h0.set 1 v1
  have h2 : Blk _ b t #[v0, v1, v2, u3, u4, u5, u6] := h1.set 2 v2
  have h3 : Blk _ b t #[v0, v1, v2, v3, u4, u5, u6] := h2.set 3 v3
  have h4 : Blk _ b t #[v0, v1, v2, v3, v4, u5, u6] := h3.set 4 v4
  have h5 : Blk _ b t #[v0, v1, v2, v3, v4, v5, u6] := h4.set 5 v5
  have h6 : Blk _ b t #[v0, v1, v2, v3, v4, v5, v6] := h5.set 6 v6
  exact h6
theorem below_set7 {w W : World} {B b : Nat} (h : Below B w W) (hb : B ≤ b) (v0 v1 v2 v3 v4 v5 v6 : Value) :
    Below B w (((((((W.setCell ⟨b, 0, none⟩ v0).setCell ⟨b, 1, none⟩ v1).setCell ⟨b, 2, none⟩ v2).setCell ⟨b, 3, none⟩ v3).setCell ⟨b, 4, none⟩ v4).setCell ⟨b, 5, none⟩ v5).setCell ⟨b, 6, none⟩ v6) :=
  ((((((h.setCell (p := ⟨b, 0, none⟩) hb _).setCell (p := ⟨b, 1, none⟩) hb _).setCell (p := ⟨b, 2, none⟩) hb _).setCell (p := ⟨b, 3, none⟩) hb _).setCell (p := ⟨b, 4, none⟩) hb _).setCell (p := ⟨b, 5, none⟩) hb _).setCell (p := ⟨b, 6, none⟩) hb _
/-- The seven cells of a step's block. -/
theorem spBlk {W : World} {b : Nat} {t : TypeId} {v0 v1 v2 v3 v4 v5 v6 : Value} (h : Blk W b t #[v0, v1, v2, v3, v4, v5, v6]) :
    (W.cell? ⟨b, 0, none⟩ = some v0 ∧ W.cell? ⟨b, 1, none⟩ = some v1 ∧ W.cell? ⟨b, 2, none⟩ = some v2 ∧ W.cell? ⟨b, 3, none⟩ = some v3) ∧ W.cell? ⟨b, 4, none⟩ = some v4 ∧ W.cell? ⟨b, 5, none⟩ = some v5 ∧ W.cell? ⟨b, 6, none⟩ = some v6 :=
  ⟨⟨h.cell 0 _ rfl, h.cell 1 _ rfl, h.cell 2 _ rfl, h.cell 3 _ rfl⟩, h.cell 4 _ rfl, h.cell 5 _ rfl, h.cell 6 _ rfl⟩
theorem spFrz {W : World} {b : Nat} {t : TypeId} {cs : Array Value} (h : Blk W b t cs) :
    (W.frozen? ⟨b, 0, none⟩ = false ∧ W.frozen? ⟨b, 1, none⟩ = false ∧ W.frozen? ⟨b, 2, none⟩ = false ∧ W.frozen? ⟨b, 3, none⟩ = false) ∧ W.frozen? ⟨b, 4, none⟩ = false ∧ W.frozen? ⟨b, 5, none⟩ = false ∧ W.frozen? ⟨b, 6, none⟩ = false :=
  ⟨⟨h.frozen 0, h.frozen 1, h.frozen 2, h.frozen 3⟩, h.frozen 4, h.frozen 5, h.frozen 6⟩
abbrev z7 : Array Value := #[.int .i64 0, .int .i64 0, .int .i64 0, .int .i64 0, .int .i64 0, .int .i64 0, .int .i64 0]
abbrev spCells (a : Int) (o : Od) (t u : Int) : Array Value := #[.int .i64 a, .int .i64 o.op, .int .i64 o.fr, .int .i64 o.to, .int .i64 o.nx, .int .i64 t, .int .i64 u]

/-! ### a whole struct stored -/
theorem Blk.row {W : World} {b : Nat} {t : TypeId} {old : Array Value} (h : Blk W b t old) (cs : Array Value) : Blk (W.setRow b cs) b t cs := setRow_heap W b old cs t (0, 0) h
theorem Blk.rowOther {W : World} {b b' : Nat} {t : TypeId} {cs : Array Value} (h : Blk W b t cs) (hne : b ≠ b') (cs' : Array Value) : Blk (W.setRow b' cs') b t cs := (setRow_other W b' b cs' hne).trans h
/-- A whole struct may be stored there. -/
def StoreOk (P : Program) (ty : TypeId) (w : World) (p v : Value) : Prop := ∃ g cells t old, p = .pointer (some ⟨g, 0, none⟩) ∧ v = .agg cells ∧ Blk w g t old ∧ (P.info? ty).map (·.size) = some cells.size ∧ old.size = cells.size ∧ cells.all (·.oneCell') = true
def rowPut (w : World) : Value → Value → World
  | .pointer (some a), .agg cs => w.setRow a.block cs
  | _, _ => w
@[simp] theorem rowPut_mk (w : World) (g : Nat) (cs : Array Value) : rowPut w (.pointer (some ⟨g, 0, none⟩)) (.agg cs) = w.setRow g cs := rfl
/-- A whole struct stored, as a rule for the walk: local go_sem, ahead of all others. -/
theorem oper_store {P : Program} {d : Option Tmp} {ty t' : TypeId} {x y : Operand} {ps : String} {af : Array Edge} {gd : Option (Nat × Bool)} {a : Act} {w : World} {K : Act → World → Prop} {Q : Exit → Act → World → Prop}
    (h : StoreOk P ty w (a.eval x) (a.eval y)) : Oper.wp P { dst := d, op := .store ty x y, type := t', pos := ps, after := af, guard := gd } a w K Q = K (a.put d undef) (rowPut w (a.eval x) (a.eval y)) := by
  obtain ⟨g, cells, t, old, hx, hy, hb, hi, ho, h1⟩ := h
  unfold Oper.wp execOp
  simp only [hx, hy, Instr.storeAt, Instr.sureAddr, Sem.run_bind, Sem.run_pure, Result.andThen_ok, run_storeVar_row w g t ty old cells hb hi ho h1]
  rfl
theorem storeOk7 {W : World} {b : Nat} {old : Array Value} (h : Blk W b 57 old) (ho : old.size = 7) (x0 x1 x2 x3 x4 x5 x6 : Int) :
    StoreOk Try.prog 57 W (.pointer (some ⟨b, 0, none⟩)) (.agg #[.int .i64 x0, .int .i64 x1, .int .i64 x2, .int .i64 x3, .int .i64 x4, .int .i64 x5, .int .i64 x6]) :=
  ⟨b, _, _, old, rfl, rfl, h, by kernel_rfl, by rw [ho]; rfl, by simp [Value.oneCell']⟩
end Go.Proofs.Ytbfhgcnfhjhgcaa
