/-
  TeN for terms whose variables may be up to 900000 (written by build/weak.py).
-/
import Derived.Test.YtnmkbpflbfhpnaaTeN
import Derived.Test.YtnmkbpflbfhpnaaWkP
import Derived.Test.YtnmkbpflbfhpnaaWkTeX
namespace Go.Proofs.Ytnmkbpflbfhpnaa.V
open Go.Proofs.Ytnmkbpflbfhpnaa.W
open Go.ChangeShapes Go.WideShapes Go.ChangeAt Go.RowKit
set_option linter.unusedVariables false
end Go.Proofs.Ytnmkbpflbfhpnaa.V
