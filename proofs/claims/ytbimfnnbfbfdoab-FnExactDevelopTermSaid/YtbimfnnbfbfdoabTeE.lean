/-
  The variables that are bound nowhere, by the specification: contracts of l3Free and FreeIn. Conditions: at most 1048576 cells.
-/
import Derived.Test.YtbimfnnbfbfdoabTeF
namespace Go.Proofs.Ytbimfnnbfbfdoab.W
open Go.ChangeShapes Go.WideShapes Go.ChangeAt Go.RowKit
set_option linter.unusedVariables false

theorem belowDrew {B : Nat} {x y : World} (h : Below B x y) : Below B x y.drew := ⟨h.os, h.tape, h.output, h.size, h.block⟩
theorem put_len (l : List Int) (n : Int) : (put l n).length ≤ l.length + 1 := by
  unfold put
  split
  · omega
  · simp; omega
/-- The variables of terms that are bound nowhere, put into a list. -/
def fre (pk : Int) (d : Nat) : Nat → F → List Int → List Int
  | _, .nil, o => o
  | i, .cons x k r, o => fre pk d (i + 1) r (if x.k = 1 ∧ ((d + binds pk i : Nat) : Int) ≤ x.n then put o (x.n - ((d + binds pk i : Nat) : Int)) else fre x.k (d + binds pk i) 0 k o)
def fr1 (d : Nat) (x : Cc) (k : F) (o : List Int) : List Int := if x.k = 1 ∧ (d : Int) ≤ x.n then put o (x.n - (d : Int)) else fre x.k d 0 k o
theorem fre_cons (pk : Int) (d i : Nat) (x : Cc) (k r : F) (o : List Int) : fre pk d i (.cons x k r) o = fre pk d (i + 1) r (fr1 (d + binds pk i) x k o) := rfl
theorem fre_app (pk : Int) (d : Nat) : ∀ (a b : F) (i : Nat) (o : List Int), fre pk d i (a.app b) o = fre pk d (i + a.len) b (fre pk d i a o)
  | .nil, b, i, o => rfl
  | .cons x k r, b, i, o => by
    simp only [F.app, fre_cons, fre_app pk d r b, F.len]
    congr 1
    omega
theorem fre_len : ∀ (a : F) (pk : Int) (d i : Nat) (o : List Int), (fre pk d i a o).length ≤ o.length + a.flat.length
  | .nil, _, _, _, o => by simp [fre]
  | .cons x k r, pk, d, i, o => by
    rw [fre]
    refine Nat.le_trans (fre_len r _ _ _ _) ?_
    simp only [F.flat, List.length_cons, List.length_append]
    split
    · have := put_len o (x.n - ((d + binds pk i : Nat) : Int)); omega
    · have := fre_len k x.k (d + binds pk i) 0 o; omega

theorem good_n {x : Cc} (h : goodC x = true) : -1000000 ≤ x.n ∧ x.n ≤ 1000000 := by
  unfold goodC at h
  unfold inB at h
  split at h
  · simp at h; omega
  · split at h
    · simp at h; omega
    · simp at h; omega

/-- The variables that are bound nowhere. -/
def freT : F → List Int
  | .nil => []
  | .cons x k _ => fr1 0 x k []
end Go.Proofs.Ytbimfnnbfbfdoab.W
