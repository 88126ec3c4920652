/-
  The specification's LiveIn, LiveOut and DeadSets. Conditions: none but those that each theorem states.
-/
import Derived.Test.YtaniiolphghhiabLvV
import Derived.Test.YtaniiolphghhiabLvI
namespace Go.Proofs.Ytaniiolphghhiab.W
open Go.ChangeShapes Go.WideShapes Go.ChangeAt Go.RowKit Go.Joins
set_option linter.unusedVariables false
set_option linter.unusedSimpArgs false
set_option maxRecDepth 20000

theorem QV.nilv (w : World) : QV w (.slice none 0 0) [] := ⟨none, 0, rfl, .inl rfl, ⟨by simp, by simp⟩, Nat.le_refl _⟩
theorem lvR_sm {D F : List (List Int)} (h : GF D F) : QSm (lvR D F) := by
  have := mapLst_sm (f := lv D F) h.1.2.1
  exact ⟨by have := this.1; unfold lvR; omega, fun l hl => by have := this.2 l hl; omega⟩

theorem ous_take {D L : List (List Int)} {k : Nat} (h : k < D.length) : (ous D L).take (k + 1) = (ous D L).take k ++ [ou D L k] := by
  rw [List.take_add_one, List.getElem?_eq_getElem (by rw [ous_len]; exact h)]
  simp [ous]
end Go.Proofs.Ytaniiolphghhiab.W
