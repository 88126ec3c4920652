/-
  Sizes and uses as the specification counts them: contracts of l3Size and l3Uses. Conditions: as the theorems state.
-/
import Derived.Test.YtnmkbpflbfhpnaaTeE
namespace Go.Proofs.Ytnmkbpflbfhpnaa.W
open Go.ChangeShapes Go.WideShapes Go.ChangeAt Go.RowKit
set_option linter.unusedVariables false

/-- How often the kids from i on of a term of kind pk use what is meant by K around it. -/
def usf (K : Nat) (pk : Int) : Nat → F → Nat
  | _, .nil => 0
  | i, .cons x k r => (if x.k = 1 ∧ x.n = ((K + binds pk i : Nat) : Int) then 1 else usf (K + binds pk i) x.k 0 k) + usf K pk (i + 1) r
def us1 (K : Nat) (x : Cc) (k : F) : Nat := if x.k = 1 ∧ x.n = (K : Int) then 1 else usf K x.k 0 k
theorem usf_cons (K : Nat) (pk : Int) (i : Nat) (x : Cc) (k r : F) : usf K pk i (.cons x k r) = us1 (K + binds pk i) x k + usf K pk (i + 1) r := rfl
theorem usf_app (pk : Int) (K : Nat) : ∀ (a b : F) (i : Nat), usf K pk i (a.app b) = usf K pk i a + usf K pk (i + a.len) b
  | .nil, b, i => by simp [F.app, usf, F.len]
  | .cons x k r, b, i => by
    simp only [F.app, usf, usf_app pk K r b, F.len]
    rw [show i + 1 + r.len = i + (r.len + 1) by omega]
    omega
theorem usf_le : ∀ (a : F) (pk : Int) (K i : Nat), usf K pk i a ≤ a.flat.length
  | .nil, _, _, _ => Nat.le_refl _
  | .cons x k r, pk, K, i => by
    have h1 := usf_le r pk K (i + 1)
    have h2 := usf_le k x.k (K + binds pk i) 0
    simp only [usf, F.flat, List.length_cons, List.length_append]
    split <;> omega
theorem us1_le (K : Nat) (x : Cc) (k : F) : us1 K x k ≤ k.flat.length + 1 := by
  have := usf_le k x.k K 0
  unfold us1
  split <;> omega
end Go.Proofs.Ytnmkbpflbfhpnaa.W
