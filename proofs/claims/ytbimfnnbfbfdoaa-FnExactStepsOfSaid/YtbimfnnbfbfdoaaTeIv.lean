/-
  Contracts of IsValue: the program's (isValueCell, IsValue) and the specification's (l4Value, IsValue). Conditions: at most 1048576 cells.
-/
import Derived.Test.YtbimfnnbfbfdoaaTeS
namespace Go.Proofs.Ytbimfnnbfbfdoaa.W
open Go.ChangeShapes Go.WideShapes Go.ChangeAt Go.RowKit
set_option linter.unusedVariables false

/-- A value, by its first cell's kind. -/
def isVal (k : Int) : Bool := decide (k = 3) || decide (k = 2)
/-- Whether what is read is a value. -/
def valT : Option F → Bool
  | some (.cons x _ _) => isVal x.k
  | _ => false
end Go.Proofs.Ytbimfnnbfbfdoaa.W
