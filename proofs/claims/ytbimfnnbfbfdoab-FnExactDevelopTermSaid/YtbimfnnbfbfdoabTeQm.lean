/-
  Terms put in the place of variables: the model. No conditions.
-/
import Derived.Test.YtbimfnnbfbfdoabTeU
import Derived.Test.YtbimfnnbfbfdoabTeN
namespace Go.Proofs.Ytbimfnnbfbfdoab.W
open Go.ChangeShapes Go.WideShapes Go.ChangeAt Go.RowKit
set_option linter.unusedVariables false

/-- What is put in the place of a term's first cell. -/
def sbr (K : Nat) (sx : Cc) (d : Nat) (x : Cc) : Cc := if x.k = 1 then (if x.n = (K : Int) + (d : Int) then shc (d : Int) 0 sx else if (K : Int) + (d : Int) < x.n then ⟨1, x.n - 1⟩ else x) else x
/-- The kids from i on of a term of kind pk, with a term in the place of K. -/
def sbf (K : Nat) (sx : Cc) (sk : F) (pk : Int) (d : Nat) : Nat → F → F
  | _, .nil => .nil
  | i, .cons x k r => .cons (sbr K sx (d + binds pk i) x) (if x.k = 1 then (if x.n = (K : Int) + ((d + binds pk i : Nat) : Int) then shf ((d + binds pk i : Nat) : Int) sx.k 0 0 sk else .nil) else sbf K sx sk x.k (d + binds pk i) 0 k) (sbf K sx sk pk d (i + 1) r)
def sbk (K : Nat) (sx : Cc) (sk : F) (d : Nat) (x : Cc) (k : F) : F := if x.k = 1 then (if x.n = (K : Int) + (d : Int) then shf (d : Int) sx.k 0 0 sk else .nil) else sbf K sx sk x.k d 0 k
theorem sbf_cons (K : Nat) (sx : Cc) (sk : F) (pk : Int) (d i : Nat) (x : Cc) (k r : F) : sbf K sx sk pk d i (.cons x k r) = .cons (sbr K sx (d + binds pk i) x) (sbk K sx sk (d + binds pk i) x k) (sbf K sx sk pk d (i + 1) r) := rfl
theorem sbf_app (K : Nat) (sx : Cc) (sk : F) (pk : Int) (d : Nat) : ∀ (a b : F) (i : Nat), sbf K sx sk pk d i (a.app b) = (sbf K sx sk pk d i a).app (sbf K sx sk pk d (i + a.len) b)
  | .nil, b, i => rfl
  | .cons x k r, b, i => by
    simp only [F.app, sbf_cons, sbf_app K sx sk pk d r b, F.len]
    rw [show i + 1 + r.len = i + (r.len + 1) by omega]
theorem sbf_len (K : Nat) (sx : Cc) (sk : F) (pk : Int) (d : Nat) : ∀ (a : F) (i : Nat), (sbf K sx sk pk d i a).len = a.len
  | .nil, _ => rfl
  | .cons x k r, i => by simp [sbf_cons, F.len, sbf_len K sx sk pk d r]

def L3PGoal (k : F) : Prop := ∀ (x sx : Cc) (sk : F) (s ss : Value) (K d : Nat) (P Q : Nat → Prop) (w : World), -1000000 ≤ x.n → x.n ≤ 1000000 → -1000000 ≤ sx.n → sx.n ≤ 1000000 → K ≤ 99 → k.len = ar x.k → k.ok → sk.len = ar sx.k → sk.ok → sk.flat.length ≤ 600 → d + k.flat.length ≤ 1000 → KidT w P k s → KidT w Q sk ss →
    Calls Try.prog 78 #[.agg #[.int .i64 x.k, .int .i64 x.n, s], .int .i64 (K : Int), .agg #[.int .i64 sx.k, .int .i64 sx.n, ss], .int .i64 (d : Int)] w fun e w' => ∃ s', e = .returned (.agg #[.int .i64 (sbr K sx d x).k, .int .i64 (sbr K sx d x).n, s']) ∧ KidT w' (fun g => w.heap.size ≤ g) (sbk K sx sk d x k) s' ∧ Below w.heap.size w w'
end Go.Proofs.Ytbimfnnbfbfdoab.W
