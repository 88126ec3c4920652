/-
  Cells that are such terms, and where they end. No program here.
-/
import Derived.Test.YtbimfnnbfbfdoabWkP
namespace Go.Proofs.Ytbimfnnbfbfdoab.V
open Go.Proofs.Ytbimfnnbfbfdoab.W
set_option linter.unusedVariables false
/-- Cells that are a term in this sense. -/
def treeW (l : List Cc) (a : F) : Prop := l = a.flat ∧ a.okw ∧ a.len = 1 ∧ l.length ≤ 600
theorem treeW_flat {l : List Cc} {a : F} (h : treeW l a) : l = a.flat ∧ a.okw ∧ a.len = 1 ∧ l.length ≤ 600 ∧ True := ⟨h.1, h.2.1, h.2.2.1, h.2.2.2, trivial⟩
theorem tree_one {y : Cc} {ky : F} (h : okT y ky) (hl : ky.flat.length + 1 ≤ 600) : treeW (y :: ky.flat) (.cons y ky .nil) := ⟨by simp [F.flat], ⟨h.1, h.2.1, h.2.2, trivial⟩, rfl, by simpa using hl⟩
def sz : List Cc → Nat → Nat → Option Nat
  | [], m, i => if m = 0 then some i else none
  | x :: l, m, i => if m = 0 then some i else if goodC x = true then sz l (m - 1 + ar x.k) (i + 1) else none
theorem sz_0 (l : List Cc) (i : Nat) : sz l 0 i = some i := by cases l <;> rfl
theorem sz_flat : ∀ (a : F) (r : List Cc) (m i : Nat), a.okw → sz (a.flat ++ r) (m + a.len) i = sz r m (i + a.flat.length)
  | .nil, r, m, i, _ => by simp [F.flat, F.len]
  | .cons x k s, r, m, i, ⟨h1, h2, h3, h4⟩ => by
    show sz (x :: (k.flat ++ s.flat) ++ r) (m + (s.len + 1)) i = _
    rw [List.cons_append, List.append_assoc, sz, if_neg (by omega), if_pos h1, show m + (s.len + 1) - 1 + ar x.k = (m + s.len) + k.len by rw [h2]; omega, sz_flat k _ _ _ h3, sz_flat s r m _ h4]
    congr 1
    simp [F.flat]; omega
end Go.Proofs.Ytbimfnnbfbfdoab.V
