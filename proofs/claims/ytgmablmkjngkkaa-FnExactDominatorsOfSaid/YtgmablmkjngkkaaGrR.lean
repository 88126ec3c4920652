/-
  Both ReachedOf and both Without. Conditions: none but those that each theorem states.
-/
import Derived.Test.YtgmablmkjngkkaaGrZ
namespace Go.Proofs.Ytgmablmkjngkkaa.W
open Go.ChangeShapes Go.WideShapes Go.ChangeAt Go.RowKit Go.Joins
set_option linter.unusedVariables false
set_option maxRecDepth 20000

/-- What ReachedOf tells. -/
noncomputable def reR (L : List (List Int)) : List Int := if goodG L = true then rl L (-1) 0 else []
/-- What Without tells. -/
noncomputable def woB (L : List (List Int)) (k : Int) : Bool := goodG L && beB k L.length
noncomputable def woR (L : List (List Int)) (k : Int) : List Int := if woB L k = true then rl L k 0 else []
theorem reR_len (L : List (List Int)) : (reR L).length ≤ 12 := by
  unfold reR; split
  · exact lst_len _ _
  · simp
theorem woR_len (L : List (List Int)) (k : Int) : (woR L k).length ≤ 12 := by
  unfold woR; split
  · exact lst_len _ _
  · simp
end Go.Proofs.Ytgmablmkjngkkaa.W
