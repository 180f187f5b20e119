/-
  A slice of spans among the arguments of a law, opened.
-/
import Derived.Test.YtlocdkjnefmiaaaGCan
import Derived.Test.YtlocdkjnefmiaaaGOpen
import Derived.Test.YtlocdkjnefmiaaaOpenHeated
import Derived.Deep.SlicePairs
import Derived.SizedLaws
namespace Go.Proofs.Ytlocdkjnefmiaaa
open Go.ChangeShapes Go.WideShapes Go.ChangeAt Go.RowKit Go.Deep
set_option linter.unusedVariables false
set_option linter.unusedSimpArgs false

theorem bytes_span : Try.prog.bytesOf 31 = 16 := by kernel_rfl
set_option maxRecDepth 100000 in
theorem open_spans {H : Type} {enc : TypeId × Value → H} {W : World} {b0 : Nat} {r : Go.Reach} {spare : Nat → Bool} {held : Bool} {v : Value} {d : DataW H} {p : List MemPlace}
    (hv : Value.okWide Try.prog W r b0 40 v) (h : DataW.Trod enc Try.prog W 0 spare held 40 v d p) :
    ∃ a cap, ∃ ss : List (Int × Int), v = .slice a ss.length cap ∧ SpansAt W a ss ∧ (ss.length = 0 ∨ ∃ es rest, d = .slice es rest ∧ es.length = ss.length) := by
  obtain ⟨a0, len, cap, rfl⟩ := okWide_slice Try.underlying40 hv
  obtain ⟨fuel, hf⟩ := h
  rcases open_slice_pairs Try.underlying40 Try.underlying31 cells_span rfl rfl cells_i cells_i hf with ⟨hcs, hx⟩ | ⟨a, len', cap', m, n, V0, V1, D0, D1, P0, P1, hcs, _, hl, hm, hmm, hx, hcell⟩
  · simp [Value.cells] at hcs
    obtain ⟨rfl, rfl, rfl⟩ := hcs
    exact ⟨none, 0, [], rfl, fun j hj => by simp at hj, .inl rfl⟩
  · simp [Value.cells] at hcs
    obtain ⟨rfl, rfl, rfl⟩ := hcs
    simp only [Prod.mk.injEq] at hx
    obtain ⟨rfl, rfl⟩ := hx
    have hlm : len ≤ m := by rw [hmm]; split <;> omega
    have each : ∀ i, i < len → ∃ q : Int × Int, V0 i = .int .i64 q.1 ∧ V1 i = .int .i64 q.2 := fun i hi => by
      obtain ⟨_, _, f0, f1⟩ := hcell i (by omega)
      obtain ⟨x0, e0, _, _⟩ := DataW.trod_int Try.underlying3 f0
      obtain ⟨x1, e1, _, _⟩ := DataW.trod_int Try.underlying3 f1
      simp at e0 e1
      exact ⟨(x0, x1), e0, e1⟩
    obtain ⟨q, hq⟩ := choose_lt each
    refine ⟨some a, cap, (List.range len).map q, by simp, fun j hj => ?_, .inr ⟨_, _, rfl, by simp⟩⟩
    have hj' : j < len := by simpa using hj
    obtain ⟨g0, g1, _, _⟩ := hcell j (by omega)
    obtain ⟨b, off, spot⟩ := a
    have hspot : spot = none := by simpa [Addr.add] using World.cell?_spot (hcell 0 (by omega)).1
    subst hspot
    refine ⟨b, off, rfl, ?_, ?_⟩
    · rw [add_plain, (hq j hj').1] at g0
      simpa [hj'] using g0
    · rw [add_plain, (hq j hj').2] at g1
      simpa [hj', Nat.add_assoc] using g1
set_option maxRecDepth 100000 in
theorem open_spans_len {H : Type} {ts : List TypeId} {ds : List (DataW H)} {d : DataW H} {ss : List (Int × Int)} {j : Nat} (hsz : (DataW.weightsEach Try.prog ts ds).all (· ≤ reachBytes) = true) (ht : ts[j]? = some 40) (hd : ds[j]? = some d)
    (h : ss.length = 0 ∨ ∃ es rest, d = .slice es rest ∧ es.length = ss.length) : Len ss.length := by
  rcases h with h | ⟨es, rest, rfl, he⟩
  · omega
  · have := sized_slice hsz (j := j) (t := 40) (e := 31) ht hd Try.underlying40
    rw [bytes_span, he] at this
    simp only [reachBytes] at this
    omega
end Go.Proofs.Ytlocdkjnefmiaaa
