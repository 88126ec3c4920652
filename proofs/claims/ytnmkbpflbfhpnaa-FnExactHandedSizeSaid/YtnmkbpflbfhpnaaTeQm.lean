/-
  Terms put in the place of variables: the model. No conditions.
-/
import Derived.Test.YtnmkbpflbfhpnaaTeU
import Derived.Test.YtnmkbpflbfhpnaaTeN
namespace Go.Proofs.Ytnmkbpflbfhpnaa.W
open Go.ChangeShapes Go.WideShapes Go.ChangeAt Go.RowKit
set_option linter.unusedVariables false

/-- What is put in the place of a term's first cell. -/
def sbr (K : Nat) (sx : Cc) (d : Nat) (x : Cc) : Cc := if x.k = 1 then (if x.n = (K : Int) + (d : Int) then shc (d : Int) 0 sx else if (K : Int) + (d : Int) < x.n then ⟨1, x.n - 1⟩ else x) else x
/-- The kids from i on of a term of kind pk, with a term in the place of K. -/
def sbf (K : Nat) (sx : Cc) (sk : F) (pk : Int) (d : Nat) : Nat → F → F
  | _, .nil => .nil
  | i, .cons x k r => .cons (sbr K sx (d + binds pk i) x) (if x.k = 1 then (if x.n = (K : Int) + ((d + binds pk i : Nat) : Int) then shf ((d + binds pk i : Nat) : Int) sx.k 0 0 sk else .nil) else sbf K sx sk x.k (d + binds pk i) 0 k) (sbf K sx sk pk d (i + 1) r)
def sbk (K : Nat) (sx : Cc) (sk : F) (d : Nat) (x : Cc) (k : F) : F := if x.k = 1 then (if x.n = (K : Int) + (d : Int) then shf (d : Int) sx.k 0 0 sk else .nil) else sbf K sx sk x.k d 0 k
theorem sbf_cons (K : Nat) (sx : Cc) (sk : F) (pk : Int) (d i : Nat) (x : Cc) (k r : F) : sbf K sx sk pk d i (.cons x k r) = .cons (sbr K sx (d + binds pk i) x) (sbk K sx sk (d + binds pk i) x k) (sbf K sx sk pk d (i + 1) r) := rfl
theorem sbf_app (K : Nat) (sx : Cc) (sk : F) (pk : Int) (d : Nat) : ∀ (a b : F) (i : Nat), sbf K sx sk pk d i (a.app b) = (sbf K sx sk pk d i a).app (sbf K sx sk pk d (i + a.len) b)
  | .nil, b, i => rfl
  | .cons x k r, b, i => by
    simp only [F.app, sbf_cons, sbf_app K sx sk pk d r b, F.len]
    rw [show i + 1 + r.len = i + (r.len + 1) by omega]
theorem sbf_len (K : Nat) (sx : Cc) (sk : F) (pk : Int) (d : Nat) : ∀ (a : F) (i : Nat), (sbf K sx sk pk d i a).len = a.len
  | .nil, _ => rfl
  | .cons x k r, i => by simp [sbf_cons, F.len, sbf_len K sx sk pk d r]
end Go.Proofs.Ytnmkbpflbfhpnaa.W
