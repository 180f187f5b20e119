/-
  What stays as calls go by, all of it carried as one.
-/
import Derived.Test.YtlocdkjnefmiaaaGSmall
import Derived.Test.YtlocdkjnefmiaaaGCan
namespace Go.Proofs.Ytlocdkjnefmiaaa
open Go.RowKit
set_option linter.unusedVariables false
set_option linter.unusedSimpArgs false

/-- It stays, whatever lies behind what lay. -/
def Stab (P : World → Prop) : Prop := ∀ W W', P W → Below W.heap.size W W' → P W'
theorem st_and {P Q : World → Prop} (h1 : Stab P) (h2 : Stab Q) : Stab (fun W => P W ∧ Q W) := fun W W' h hb => ⟨h1 W W' h.1 hb, h2 W W' h.2 hb⟩
theorem st_ints (a : Option Addr) (xs : List Int) : Stab (fun W => IntsAt W a xs) := fun W W' h hb => h.below hb
theorem st_spans (a : Option Addr) (xs : List (Int × Int)) : Stab (fun W => SpansAt W a xs) := fun W W' h hb => h.below hb
theorem st_cel (b o : Nat) (v : Value) : Stab (fun W => Cel W b o v) := fun W W' h hb => h.call hb
theorem st_cell (b o : Nat) (v : Value) : Stab (fun W => W.cell? ⟨b, o, none⟩ = some v) := fun W W' h hb => cell_later hb h
theorem st_below (w : World) : Stab (fun W => Below w.heap.size w W) := fun W W' h hb => b_call hb h
theorem cel_other {W : World} {b o o' : Nat} {v u : Value} (g : Cel W b o v) (hne : o' ≠ o) : Cel (W.setCell ⟨b, o', none⟩ u) b o v := by
  refine ⟨(World.cell?_setCell_other W ⟨b, o', none⟩ ⟨b, o, none⟩ u (by simp [hne])).trans g.1, ?_⟩
  rw [World.frozen?_setCell]; exact g.2
theorem cel_same {W : World} {b o : Nat} {v : Value} (u : Value) (g : Cel W b o v) : Cel (W.setCell ⟨b, o, none⟩ u) b o u := by
  refine ⟨World.cell?_setCell_same' W ⟨b, o, none⟩ u (by rw [g.1]; rfl), ?_⟩
  rw [World.frozen?_setCell]; exact g.2
end Go.Proofs.Ytlocdkjnefmiaaa
