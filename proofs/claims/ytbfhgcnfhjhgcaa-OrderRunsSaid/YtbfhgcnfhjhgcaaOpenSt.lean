/-
  An order, a state, among the arguments of a law, opened.
-/
import Derived.Test.YtbfhgcnfhjhgcaaOpenInts
import Derived.Test.YtbfhgcnfhjhgcaaState
namespace Go.Proofs.Ytbfhgcnfhjhgcaa
open Go.ChangeShapes Go.WideShapes Go.ChangeAt Go.RowKit
set_option linter.unusedVariables false
set_option linter.unusedSimpArgs false

set_option maxRecDepth 100000 in
theorem open_od {H : Type} {enc : TypeId × Value → H} {w : World} {base b0 : Nat} {r : Reach} {spare : Nat → Bool} {held : Bool} {v : Value} {d : DataW H} {p : List MemPlace}
    (hv : Value.okWide Try.prog w r b0 23 v) (h : DataW.Trod enc Try.prog w base spare held 23 v d p) : ∃ o : Od, v = o.val := by
  have c3 : Try.prog.cellsOf 3 = 1 := by kernel_rfl
  have cL : Try.prog.cellsOf 23 = 4 := by kernel_rfl
  obtain ⟨cs, rfl, hsz⟩ := okWide_struct Try.underlying23 hv
  rw [cL] at hsz
  obtain ⟨fuel, hf⟩ := h
  obtain ⟨xs, n, _, hx, hl, hlen, hfs⟩ := DataW.trod_struct Try.underlying23 hf
  have f0 := hfs 0 _ rfl
  have f1 := hfs 1 _ rfl
  have f2 := hfs 2 _ rfl
  have f3 := hfs 3 _ rfl
  clear hfs hx hf
  obtain ⟨cs⟩ := cs
  match cs, hsz, xs, hlen, f0, f1, f2, f3 with
  | [v0, v1, v2, v3], _, [x0, x1, x2, x3], _, f0, f1, f2, f3 =>
    simp [Value.cells, c3] at f0 f1 f2 f3
    obtain ⟨a0, e0, _, _⟩ := DataW.trod_int Try.underlying3 f0
    obtain ⟨a1, e1, _, _⟩ := DataW.trod_int Try.underlying3 f1
    obtain ⟨a2, e2, _, _⟩ := DataW.trod_int Try.underlying3 f2
    obtain ⟨a3, e3, _, _⟩ := DataW.trod_int Try.underlying3 f3
    simp at e0 e1 e2 e3
    exact ⟨⟨a0, a1, a2, a3⟩, by rw [e0, e1, e2, e3]⟩
theorem trod_intsl {H : Type} {enc : TypeId × Value → H} {W : World} {spare : Nat → Bool} {held : Bool} {fuel : Nat} {v : Value} {x : DataW H × List MemPlace} (hf : DataW.trod enc Try.prog W 0 spare held fuel 35 [v] = some x) :
    ∃ a cap ws, v = .slice a ws.length cap ∧ IntsAt W a ws ∧ (ws.length = 0 ∨ ∃ rest, x.1 = .slice (lits .i64 ws) rest) := by
  rcases open_ints Try.underlying35 Try.underlying3 cells_int hf with ⟨hcs, hx⟩ | ⟨a, len', cap', zs, hcs, _, hl, hm, hz, hx, hcell, hwz⟩
  · simp at hcs
    exact ⟨none, 0, [], hcs, fun j hj => by simp at hj, .inl rfl⟩
  · simp at hcs
    subst hcs hx
    have hlz : len' ≤ zs.length := by rw [hz]; split <;> omega
    have e : (zs.take len').length = len' := by simp; omega
    refine ⟨some a, cap', zs.take len', by rw [e], fun j hj => ?_, .inr ⟨_, rfl⟩⟩
    rw [e] at hj
    obtain ⟨b, off, rfl, hc⟩ := ints_at hcell (by omega)
    refine ⟨b, off, rfl, (hc j (by omega)).trans ?_⟩
    rw [List.getElem?_take_of_lt hj, List.getD_eq_getElem?_getD]
/-- The data of a state's slices. -/
def StData {H : Type} (s : St) (d : DataW H) : Prop := ∃ x0 x1 x2 x3 x4 x5 x6 x7, d = .agg [x0, x1, x2, x3, x4, x5, x6, x7] ∧ (s.store.length = 0 ∨ ∃ rest, x0 = .slice (lits .i64 s.store) rest) ∧ (s.tape.length = 0 ∨ ∃ rest, x1 = .slice (lits .i64 s.tape) rest) ∧ (s.printed.length = 0 ∨ ∃ rest, x3 = .slice (lits .i64 s.printed) rest)
set_option maxRecDepth 100000 in
theorem open_st {H : Type} {enc : TypeId × Value → H} {w : World} {b0 : Nat} {r : Reach} {spare : Nat → Bool} {held : Bool} {v : Value} {d : DataW H} {p : List MemPlace}
    (hv : Value.okWide Try.prog w r b0 37 v) (h : DataW.Trod enc Try.prog w 0 spare held 37 v d p) : ∃ q s, v = stVal q s ∧ StAt w q s ∧ StData s d := by
  have c3 : Try.prog.cellsOf 3 = 1 := by kernel_rfl
  have cS : Try.prog.cellsOf 35 = 1 := by kernel_rfl
  have cL : Try.prog.cellsOf 37 = 8 := by kernel_rfl
  obtain ⟨cs, rfl, hsz⟩ := okWide_struct Try.underlying37 hv
  rw [cL] at hsz
  obtain ⟨fuel, hf⟩ := h
  obtain ⟨xs, n, _, hx, hl, hlen, hfs⟩ := DataW.trod_struct Try.underlying37 hf
  have f0 := hfs 0 _ rfl
  have f1 := hfs 1 _ rfl
  have f2 := hfs 2 _ rfl
  have f3 := hfs 3 _ rfl
  have f4 := hfs 4 _ rfl
  have f5 := hfs 5 _ rfl
  have f6 := hfs 6 _ rfl
  have f7 := hfs 7 _ rfl
  clear hfs hf
  obtain ⟨cs⟩ := cs
  match cs, hsz, xs, hlen, hx, f0, f1, f2, f3, f4, f5, f6, f7 with
  | [v0, v1, v2, v3, v4, v5, v6, v7], _, [x0, x1, x2, x3, x4, x5, x6, x7], _, hx, f0, f1, f2, f3, f4, f5, f6, f7 =>
    simp [Value.cells, c3, cS] at f0 f1 f2 f3 f4 f5 f6 f7
    obtain ⟨a0, k0, s0, e0, g0, z0⟩ := trod_intsl f0
    obtain ⟨a1, k1, s1, e1, g1, z1⟩ := trod_intsl f1
    obtain ⟨n2, e2, _, _⟩ := DataW.trod_int Try.underlying3 f2
    obtain ⟨a3, k3, s3, e3, g3, z3⟩ := trod_intsl f3
    obtain ⟨n4, e4, _, _⟩ := DataW.trod_int Try.underlying3 f4
    obtain ⟨n5, e5, _, _⟩ := DataW.trod_int Try.underlying3 f5
    obtain ⟨n6, e6, _, _⟩ := DataW.trod_int Try.underlying3 f6
    obtain ⟨n7, e7, _, _⟩ := DataW.trod_int Try.underlying3 f7
    simp at e2 e4 e5 e6 e7
    simp only [Prod.mk.injEq] at hx
    exact ⟨⟨a0, a1, a3, k0, k1, k3⟩, ⟨s0, s1, n2, s3, n4, n5, n6, n7⟩, by simp only [stVal, stCells]; rw [e0, e1, e2, e3, e4, e5, e6, e7], ⟨g0, g1, g3⟩, x0.1, x1.1, x2.1, x3.1, x4.1, x5.1, x6.1, x7.1, by rw [hx.1]; rfl, z0, z1, z3⟩
theorem weights_st {H : Type} (l : List (DataW H)) : (DataW.agg l).weights Try.prog 37 = DataW.weightsEach Try.prog [35, 35, 3, 35, 3, 3, 3, 3] l := by
  rw [DataW.weights, Try.underlying37]; rfl
set_option maxRecDepth 100000 in
theorem open_st_len {H : Type} {ts : List TypeId} {ds : List (DataW H)} {d : DataW H} {s : St} {j : Nat} (hsz : (DataW.weightsEach Try.prog ts ds).all (· ≤ reachBytes) = true) (ht : ts[j]? = some 37) (hd : ds[j]? = some d) (h : StData s d) : StLen s := by
  obtain ⟨x0, x1, x2, x3, x4, x5, x6, x7, rfl, h0, h1, h3⟩ := h
  have hs : (DataW.weightsEach Try.prog [35, 35, 3, 35, 3, 3, 3, 3] [x0, x1, x2, x3, x4, x5, x6, x7]).all (· ≤ reachBytes) = true := by
    rw [← weights_st]
    exact List.all_eq_true.2 fun n hn => List.all_eq_true.1 hsz n (DataW.weights_mem_each ht hd n hn)
  exact ⟨open_intsl_len (j := 0) hs rfl rfl h0, open_intsl_len (j := 1) hs rfl rfl h1, open_intsl_len (j := 3) hs rfl rfl h3⟩
end Go.Proofs.Ytbfhgcnfhjhgcaa
