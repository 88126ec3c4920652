/-
  Contracts of the program's goodPart, partsBehind and GoodExpr. Conditions: texts no longer than Go allows; the table of signs reads as its text lays it.
-/
import Derived.Test.YtmnicilgenpnfaaDoorExP
import Derived.Test.YtmnicilgenpnfaaDoorDoorS
namespace Go.Proofs.YtmnicilgenpnfaaDoor.W
open Go.ChangeShapes Go.WideShapes Go.ChangeAt Go.RowKit
end Go.Proofs.YtmnicilgenpnfaaDoor.W
