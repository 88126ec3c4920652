/-
  The variables that are bound nowhere, by the program: contracts of FreeIn's closure and of FreeIn. Conditions: at most 1048576 cells.
-/
import Derived.Test.YtbimfnnbfbfdoabTeE
namespace Go.Proofs.Ytbimfnnbfbfdoab.W
open Go.ChangeShapes Go.WideShapes Go.ChangeAt Go.RowKit
set_option linter.unusedVariables false

theorem iOwn_lower {w : World} {base base' n size : Nat} {e : TypeId} {v : Value} {xs : List Value} (h : w.ownsRow base e size v n xs) (hb : base' ≤ base) : w.ownsRow base' e size v n xs := by
  refine ⟨h.1, ?_⟩
  rcases h.2 with h1 | ⟨g, cap, cur, hv, hg, rest⟩
  · exact .inl h1
  · exact .inr ⟨g, cap, cur, hv, by omega, rest⟩

/-- The places below j that are marked. -/
def mkd (s : List Bool) (j : Nat) : List Int := ((List.range j).filter fun i => s.getD i false).map Int.ofNat
def marked (s : List Bool) : List Int := mkd s 100
theorem mkd_succ (s : List Bool) (j : Nat) : mkd s (j + 1) = if s.getD j false = true then mkd s j ++ [(j : Int)] else mkd s j := by
  unfold mkd
  rw [List.range_succ, List.filter_append, List.map_append]
  split
  · rename_i h; rw [List.filter_cons, if_pos h]; rfl
  · rename_i h; rw [List.filter_cons, if_neg h]; simp
theorem mkd_len (s : List Bool) (j : Nat) : (mkd s j).length ≤ j := by
  unfold mkd
  rw [List.length_map]
  exact Nat.le_trans (List.length_filter_le _ _) (by simp)
end Go.Proofs.Ytbimfnnbfbfdoab.W
