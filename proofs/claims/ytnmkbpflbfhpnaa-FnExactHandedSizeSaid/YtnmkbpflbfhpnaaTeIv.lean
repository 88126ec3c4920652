/-
  Contracts of IsValue: the program's (isValueCell, IsValue) and the specification's (l4Value, IsValue). Conditions: at most 1048576 cells.
-/
import Derived.Test.YtnmkbpflbfhpnaaTeS
namespace Go.Proofs.Ytnmkbpflbfhpnaa.W
open Go.ChangeShapes Go.WideShapes Go.ChangeAt Go.RowKit
set_option linter.unusedVariables false

/-- A value, by its first cell's kind. -/
def isVal (k : Int) : Bool := decide (k = 3) || decide (k = 2)
/-- Whether what is read is a value. -/
def valT : Option F → Bool
  | some (.cons x _ _) => isVal x.k
  | _ => false

set_option maxHeartbeats 400000 in
theorem isValueCell_any (k n : Int) (w : World) :
    Calls Try.prog 79 #[.agg #[.int .i64 k, .int .i64 n]] w fun e w' => e = .returned (.bool (isVal k)) ∧ Below w.heap.size w w' := by
  go_enter Try.func79, Try.ntmps79
  go_wp2
  all_goals
    go_ret
    refine ⟨ret_bool ?_, (Below.refl _ _).alloc (Nat.le_refl _) _⟩
    rw [Bool.eq_iff_iff]; simp_all [isVal]
end Go.Proofs.Ytnmkbpflbfhpnaa.W
